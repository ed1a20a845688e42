
import Derived.Test.YtjndahjfodnllaaGreatDoorPw7
import Derived.Sort.LotA
import Derived.Test.YtjndahjfodnllaaGreatDoorPw5
import Derived.Test.YtjndahjfodnllaaGreatDoorPw6
import Derived.Shelf.Strings.Builder1
import Derived.Shelf.Strings.Builder2
import Derived.Shelf.Strings.OnBuilder
import Derived.Shelf.Strings.Trim
import Derived.Shelf.Small.Utf8
import Derived.Shelf.Small.Bits
import Derived.Shelf.Small.Strs
import Derived.Shelf.Small.Wraps
import Derived.Shelf.Strconv.Itoa0
import Derived.Shelf.Strconv.Itoa1
import Derived.Shelf.LaysM
import Derived.Shelf.Strconv.Itoa2
import Derived.Shelf.Strconv.Itoa3
import Derived.Shelf.Strings.Search1
import Derived.Shelf.Strings.Search2
import Derived.Shelf.Strings.Search3
import Derived.Shelf.Strings.Cut
import Derived.Shelf.Strings.Count
import Derived.Shelf.Strings.Shaped
import Derived.Shelf.Strings.Prefix
import Derived.Shelf.Strings.Split
import Derived.Shelf.Strings.Runes
import Derived.Shelf.Strings.AsciiSet
import Derived.Shelf.Unicode.DecodeSlow
import Derived.Shelf.Slices.Turned
import Derived.Shelf.Slices.Equal
import Derived.Shelf.Slices.CompactS
import Derived.Shelf.Slices.Empties2
import Derived.Test.YtjndahjfodnllaaGreatDoorProg
import Derived.Test.YtjndahjfodnllaaGreatDoorShelfM
import Derived.Test.YtjndahjfodnllaaGreatDoorPw4
import Derived.Test.YtjndahjfodnllaaGreatDoorPw2
import Derived.Laws.OwnMore
import Derived.Test.YtjndahjfodnllaaGreatDoorPw1
import Derived.Test.YtjndahjfodnllaaGreatDoorPw3
namespace Go.Proofs.YtjndahjfodnllaaGreatDoor
open Go.RowKit
namespace Ve
theorem path_pos {l : List UInt8} (h : pathErr l = 0) : 0 < l.length := by
  rcases Nat.eq_zero_or_pos l.length with h0 | h0
  · have : l = [] := List.length_eq_zero_iff.1 h0
    subst this
    exact absurd h (by decide)
  · exact h0
theorem slF_ok {w : World} {v : Value} {Q : List Raw} {L : List Ent} (I : Ixs w v Q L) {R : List Bm} (h : ∀ m, m ∈ R → m ∈ univ L) : slF Q R = (0, none) :=
  nonE_good fun j hj => by
    obtain ⟨k, hk⟩ := (found_iff I R[j]).1 (h _ (List.getElem_mem hj))
    rw [hk]; omega
theorem alF_ok {w : World} {v : Value} {Q : List Raw} {L : List Ent} (I : Ixs w v Q L) (hc : (chk Q L).1 = 0) {R : List Bm} (h : ∀ m, m ∈ R → m ∈ univ L) : alF Q L R = (0, none) := by
  unfold alF
  rw [if_neg (by simp [hc]), slF_ok I h]
theorem alX_ok {w : World} {v : Value} {Q : List Raw} {L : List Ent} (I : Ixs w v Q L) (hc : (chk Q L).1 = 0) {R : List Bm} (h : ∀ m, m ∈ R → m ∈ univ L) : alX Q L R = alN Q L R := by
  unfold alX
  rw [alF_ok I hc h, if_pos rfl]
theorem ent_key {w : World} {v : Value} {Q : List Raw} {L : List Ent} (I : Ixs w v Q L) {m : Bm} (hm : m ∈ univ L) : (entOf Q L m).1 = m := by
  obtain ⟨k, hk, e1, e2⟩ := idx_univ I hm
  have hk' : k < L.length := by simpa [univ] using hk
  rw [entOf_at e1 hk']
  simpa [univ] using e2
theorem alN_one {Q : List Raw} {L : List Ent} {m : Bm} {s : ByteArray} : s ∈ alN Q L [m] ↔ s ∈ pkOf Q L m := by
  rw [alN_mem]
  constructor
  · rintro ⟨x, hx, h⟩
    rw [List.mem_singleton.1 hx] at h; exact h
  · intro h; exact ⟨m, List.mem_singleton.2 rfl, h⟩
theorem wh_in {w : World} {v : Value} {Q : List Raw} {L : List Ent} (I : Ixs w v Q L) (hc : (chk Q L).1 = 0) (hz : shQ Q) {p t : ByteArray} (ht : t ∈ phX Q) : (t, latV Q t) ∈ whX Q L p ↔ p ∈ pkOf Q L (t, latV Q t) := by
  unfold whX
  rw [if_pos hc, whD_mem]
  obtain ⟨r, hr, e⟩ := phX_mem.1 ht
  have h1 := (hz r hr).1
  have h2 := path_pos ((good_of I hc).path r hr)
  rw [len_eq] at h2
  rw [e] at h1 h2
  constructor
  · rintro ⟨_, _, h3, _⟩; exact inB_iff.1 h3
  · intro h3; exact ⟨ht, ⟨h2, by show t.size ≤ 100; omega⟩, inB_iff.2 h3, rfl⟩
theorem wh_lat {Q : List Raw} {L : List Ent} {p : ByteArray} {m : Bm} (h : m ∈ whX Q L p) : m.2 = latV Q m.1 ∧ m.1 ∈ phX Q := by
  unfold whX at h
  split at h
  · have := whD_mem.1 h
    exact ⟨this.2.2.2, this.1⟩
  · cases h
theorem wh_down {Q : List Raw} {L : List Ent} {p : ByteArray} {i : Nat} (h : i + 1 < (whX Q L p).length) : ((whX Q L p)[i + 1]).1.size ≤ ((whX Q L p)[i]'(by omega)).1.size := by
  have hp : (whX Q L p).Pairwise fun a b => b.1.size ≤ a.1.size := by
    unfold whX
    split
    · exact whD_down _
    · exact List.Pairwise.nil
  exact List.pairwise_iff_getElem.1 hp i (i + 1) (by omega) h (by omega)
theorem lat_univ {w : World} {v : Value} {Q : List Raw} {L : List Ent} (I : Ixs w v Q L) (hc : (chk Q L).1 = 0) {t : ByteArray} (ht : t ∈ phX Q) : (t, latV Q t) ∈ univ L := by
  obtain ⟨r, hr, e⟩ := phX_mem.1 ht
  obtain ⟨Y, hY⟩ := keptT_ex (good_of I hc) t
  exact lat_in I hc ⟨r.1, by rw [← univ_eq I]; exact List.mem_map.2 ⟨r, hr, rfl⟩, e⟩ hY
end Ve
end Go.Proofs.YtjndahjfodnllaaGreatDoor


namespace Go.Proofs.YtjndahjfodnllaaGreatDoor
namespace Ve
def gtF {α : Type} (f : α → Nat) (x y : α) : Bool := decide (f y < f x)
theorem gtF_swo {α : Type} (f : α → Nat) : Go.Sort.SWO (gtF f) where
  irrefl x := decide_eq_false (Nat.lt_irrefl _)
  trans x y z h1 h2 := decide_eq_true (Nat.lt_trans (of_decide_eq_true h2) (of_decide_eq_true h1))
  ntrans x y z h1 h2 := decide_eq_false (by have a := of_decide_eq_false h1; have b := of_decide_eq_false h2; omega)
theorem set_two {α : Type} : ∀ (l : List α) (j : Nat) (a b : α), j + 1 < l.length → (l.set (j + 1) a).set j b = l.take j ++ b :: a :: l.drop (j + 2)
  | [], _, _, _, h => by simp at h
  | [_], 0, _, _, h => by simp at h
  | _ :: _ :: _, 0, _, _, _ => rfl
  | x :: l, j + 1, a, b, h => by
    have := set_two l j a b (by simpa using h)
    simpa using this
theorem cut_pairS {α : Type} : ∀ (l : List α) (j : Nat) (h : j + 1 < l.length), l = l.take j ++ l[j] :: l[j + 1] :: l.drop (j + 2)
  | [], _, h => by simp at h
  | [_], 0, h => by simp at h
  | _ :: _ :: _, 0, _ => rfl
  | x :: l, j + 1, h => by simp
def szL {α : Type} (f : α → Nat) (n : Nat) (l : List α) : List α := l.filter fun x => decide (f x = n)
theorem szL_two {α : Type} (f : α → Nat) (n : Nat) (A B : List α) (x y : α) (h : f x ≠ f y) : szL f n (A ++ x :: y :: B) = szL f n (A ++ y :: x :: B) := by
  unfold szL
  rw [List.filter_append, List.filter_append]
  congr 1
  by_cases hx : f x = n
  · have hy : f y ≠ n := fun e => h (hx.trans e.symm)
    simp [hx, hy]
  · by_cases hy : f y = n
    · simp [hx, hy]
    · simp [hx, hy]
theorem szL_swp {α : Type} [Inhabited α] (f : α → Nat) (n : Nat) (d : Array α) (j : Nat) (h : j + 1 < d.size) (hl : gtF f d[j + 1]! d[j]! = true) : szL f n (Go.Sort.swp d (j + 1) j).toList = szL f n d.toList := by
  have e1 : (Go.Sort.swp d (j + 1) j).toList = d.toList.take j ++ d[j + 1]! :: d[j]! :: d.toList.drop (j + 2) := by
    unfold Go.Sort.swp
    rw [Array.toList_setIfInBounds, Array.toList_setIfInBounds, set_two _ _ _ _ (by simpa using h)]
  have e2 := cut_pairS d.toList j (by simpa using h)
  have e3 : d.toList[j]'(by simp; omega) = d[j]! := by rw [getElem!_pos d j (by omega)]; rfl
  have e4 : d.toList[j + 1]'(by simpa using h) = d[j + 1]! := by rw [getElem!_pos d (j + 1) h]; rfl
  rw [e3, e4] at e2
  rw [e1]
  conv => rhs; rw [e2]
  have := of_decide_eq_true hl
  exact szL_two f n _ _ _ _ (by omega)
theorem inner_size {α : Type} [Inhabited α] (lt : α → α → Bool) (a : Nat) : ∀ (j : Nat) (d : Array α), (Go.Sort.insInner lt a j d).size = d.size
  | 0, d => rfl
  | j + 1, d => by
    unfold Go.Sort.insInner
    split
    · rw [inner_size lt a j, Go.Sort.swp_size]
    · rfl
theorem inner_szL {α : Type} [Inhabited α] (f : α → Nat) (n a : Nat) : ∀ (j : Nat) (d : Array α), j < d.size → szL f n (Go.Sort.insInner (gtF f) a j d).toList = szL f n d.toList
  | 0, d, _ => rfl
  | j + 1, d, h => by
    unfold Go.Sort.insInner
    split
    · next hc =>
      rw [Bool.and_eq_true] at hc
      rw [inner_szL f n a j _ (by rw [Go.Sort.swp_size]; omega), szL_swp f n d j h hc.2]
    · rfl
theorem outer_szL {α : Type} [Inhabited α] (f : α → Nat) (n a b : Nat) : ∀ (k i : Nat) (d : Array α), b - i ≤ k → b ≤ d.size → szL f n (Go.Sort.insOuter (gtF f) a b i d).toList = szL f n d.toList
  | 0, i, d, hk, _ => by
    unfold Go.Sort.insOuter
    rw [if_neg (by omega)]
  | k + 1, i, d, hk, hb => by
    unfold Go.Sort.insOuter
    split
    · rw [outer_szL f n a b k (i + 1) _ (by omega) (by rw [inner_size]; exact hb), inner_szL f n a i d (by omega)]
    · rfl
structure Falls {α : Type} (f : α → Nat) (X Y : List α) : Prop where
  down : Y.Pairwise fun a b => f b ≤ f a
  same : ∀ n, szL f n Y = szL f n X
theorem ins_falls {α : Type} [Inhabited α] (f : α → Nat) (d : Array α) : Falls f d.toList (Go.Sort.insertionSort (gtF f) d 0 d.size).toList := by
  obtain ⟨hp, hs⟩ := Go.Sort.insertionSort_holds (lt := gtF f) (gtF_swo f) d 0 d.size (Nat.zero_le _) (Nat.le_refl _)
  refine ⟨?_, fun n => ?_⟩
  · rw [List.pairwise_iff_getElem]
    intro i j hi hj hij
    have hj' : j < (Go.Sort.insertionSort (gtF f) d 0 d.size).size := by simpa using hj
    have hi' : i < (Go.Sort.insertionSort (gtF f) d 0 d.size).size := by simpa using hi
    have := hs i j (Nat.zero_le _) hij (by rw [hp.1] at hj'; exact hj')
    rw [getElem!_pos _ j hj', getElem!_pos _ i hi'] at this
    have := of_decide_eq_false this
    simp only [Array.getElem_toList]
    omega
  · unfold Go.Sort.insertionSort
    exact outer_szL f n 0 d.size d.size 1 d (by omega) (Nat.le_refl _)
theorem szL_mem {α : Type} {f : α → Nat} {n : Nat} {l : List α} {x : α} : x ∈ szL f n l ↔ x ∈ l ∧ f x = n := by
  unfold szL
  rw [List.mem_filter, decide_eq_true_iff]
theorem Falls.mem {α : Type} {f : α → Nat} {X Y : List α} (h : Falls f X Y) {x : α} : x ∈ Y ↔ x ∈ X := by
  constructor
  · intro hx; exact (szL_mem.1 (h.same (f x) ▸ szL_mem.2 ⟨hx, rfl⟩)).1
  · intro hx; exact (szL_mem.1 ((h.same (f x)).symm ▸ szL_mem.2 ⟨hx, rfl⟩)).1
theorem falls_one {α : Type} {f : α → Nat} : ∀ {Y Z : List α}, (Y.Pairwise fun a b => f b ≤ f a) → (Z.Pairwise fun a b => f b ≤ f a) → (∀ n, szL f n Y = szL f n Z) → Y = Z
  | [], [], _, _, _ => rfl
  | [], z :: Z, _, _, h => by
    have := h (f z)
    unfold szL at this
    simp at this
  | y :: Y, [], _, _, h => by
    have := h (f y)
    unfold szL at this
    simp at this
  | y :: Y, z :: Z, h1, h2, h => by
    obtain ⟨a1, a2⟩ := List.pairwise_cons.1 h1
    obtain ⟨b1, b2⟩ := List.pairwise_cons.1 h2
    have hz : z ∈ y :: Y := (szL_mem.1 ((h (f z)).symm ▸ szL_mem.2 ⟨List.mem_cons_self, rfl⟩)).1
    have hy : y ∈ z :: Z := (szL_mem.1 ((h (f y)) ▸ szL_mem.2 ⟨List.mem_cons_self, rfl⟩)).1
    have l1 : f z ≤ f y := by
      rcases List.mem_cons.1 hz with e | e
      · rw [e]; exact Nat.le_refl _
      · exact a1 z e
    have l2 : f y ≤ f z := by
      rcases List.mem_cons.1 hy with e | e
      · rw [e]; exact Nat.le_refl _
      · exact b1 y e
    have hh := h (f y)
    unfold szL at hh
    rw [List.filter_cons_of_pos (by simp), List.filter_cons_of_pos (by simp; omega)] at hh
    injection hh with e1 e2
    subst e1
    refine congrArg (y :: ·) (falls_one a2 b2 fun n => ?_)
    have hn := h n
    unfold szL at hn ⊢
    by_cases e : f y = n
    · rw [List.filter_cons_of_pos (by simpa using e), List.filter_cons_of_pos (by simpa using e)] at hn
      injection hn
    · rwa [List.filter_cons_of_neg (by simpa using e), List.filter_cons_of_neg (by simpa using e)] at hn
def topS {α : Type} (f : α → Nat) (b m : α) : α := if f b < f m then m else b
theorem top_is {α : Type} (f : α → Nat) (z : α) (hz : f z = 0) : ∀ (n : Nat) (X : List α), X.length = n → (∀ x, x ∈ X → 0 < f x) → (X = [] ∧ X.foldl (topS f) z = z) ∨ ((szL f (f (X.foldl (topS f) z)) X).head? = some (X.foldl (topS f) z) ∧ ∀ m, m ∈ X → f m ≤ f (X.foldl (topS f) z)) := by
  intro n
  induction n with
  | zero => intro X hX _; rw [List.length_eq_zero_iff.1 hX]; exact Or.inl ⟨rfl, rfl⟩
  | succ n ih =>
    intro X hX hp
    obtain ⟨X, x, rfl⟩ : ∃ Y x, X = Y ++ [x] := by
      rcases List.eq_nil_or_concat X with rfl | h
      · cases hX
      · obtain ⟨Y, x, h⟩ := h; exact ⟨Y, x, by simpa using h⟩
    have ih := ih X (by simpa using hX)
    refine Or.inr ?_
    have hx := hp x (List.mem_append.2 (Or.inr (List.mem_singleton.2 rfl)))
    rw [List.foldl_append, List.foldl_cons, List.foldl_nil]
    rcases ih fun y hy => hp y (List.mem_append.2 (Or.inl hy)) with ⟨rfl, e⟩ | ⟨e1, e2⟩
    · rw [e]
      unfold topS
      rw [if_pos (by omega)]
      refine ⟨by unfold szL; simp, fun m hm => ?_⟩
      rw [List.nil_append, List.mem_singleton] at hm
      rw [hm]; exact Nat.le_refl _
    · generalize X.foldl (topS f) z = b at *
      unfold topS
      split
      · next hlt =>
        refine ⟨?_, fun m hm => ?_⟩
        · have : szL f (f x) X = [] := by
            unfold szL
            rw [List.filter_eq_nil_iff]
            intro a ha
            have := e2 a ha
            simp; omega
          unfold szL at this ⊢
          rw [List.filter_append, this]; simp
        · rcases List.mem_append.1 hm with h | h
          · have := e2 m h; omega
          · rw [List.mem_singleton.1 h]; exact Nat.le_refl _
      · next hlt =>
        refine ⟨?_, fun m hm => ?_⟩
        · unfold szL at e1 ⊢
          rw [List.filter_append]
          revert e1
          cases List.filter (fun x => decide (f x = f b)) X with
          | nil => intro h; cases h
          | cons a l => intro h; exact h
        · rcases List.mem_append.1 hm with h | h
          · exact e2 m h
          · rw [List.mem_singleton.1 h]; omega
theorem falls_top {α : Type} {f : α → Nat} {z : α} (hz : f z = 0) {X Y : List α} (hp : ∀ x, x ∈ X → 0 < f x) (h : Falls f X Y) : (Y = [] ∧ X.foldl (topS f) z = z) ∨ ∃ r, Y = X.foldl (topS f) z :: r ∧ 0 < f (X.foldl (topS f) z) := by
  rcases top_is f z hz X.length X rfl hp with ⟨rfl, e⟩ | ⟨e1, e2⟩
  · refine Or.inl ⟨?_, e⟩
    cases Y with
    | nil => rfl
    | cons y Y => exact absurd (h.mem.1 List.mem_cons_self) (by simp)
  · refine Or.inr ?_
    generalize X.foldl (topS f) z = b at *
    have hb : b ∈ Y := by
      have : b ∈ szL f (f b) X := by
        revert e1
        cases szL f (f b) X with
        | nil => intro h; cases h
        | cons a l => intro h; injection h with h; rw [h]; exact List.mem_cons_self
      rw [← h.same] at this
      exact (szL_mem.1 this).1
    cases Y with
    | nil => cases hb
    | cons y Y =>
      have hy : f y = f b := by
        have h1 := e2 y (h.mem.1 List.mem_cons_self)
        rcases List.mem_cons.1 hb with e | e
        · rw [e]
        · have := (List.pairwise_cons.1 h.down).1 b e
          omega
      have := h.same (f b)
      rw [← this] at e1
      unfold szL at e1
      rw [List.filter_cons_of_pos (by simpa using hy)] at e1
      injection e1 with e1
      subst e1
      exact ⟨Y, rfl, hp _ (h.mem.1 List.mem_cons_self)⟩
end Ve
end Go.Proofs.YtjndahjfodnllaaGreatDoor


namespace Go.Proofs.YtjndahjfodnllaaGreatDoor
open Go.RowKit
namespace Ve
abbrev plen (m : Bm) : Nat := m.1.size
theorem hv_next {Q : List Raw} {L : List Ent} {R : List Bm} {p : ByteArray} {k : Nat} (hk : k < R.length) : hvL Q L (R.take (k + 1)) p = if inB p (pkOf Q L R[k]) then hvL Q L (R.take k) p ++ [R[k]] else hvL Q L (R.take k) p := by
  unfold hvL
  rw [List.take_succ_eq_append_getElem hk, List.filter_append]
  cases h : inB p (pkOf Q L R[k])
  · rw [List.filter_cons_of_neg (by rw [h]; simp)]; simp
  · rw [List.filter_cons_of_pos (by rw [h])]; simp
theorem hv_le (Q : List Raw) (L : List Ent) (R : List Bm) (p : ByteArray) (k : Nat) : (hvL Q L (R.take k) p).length ≤ k := by
  unfold hvL
  exact Nat.le_trans (List.length_filter_le _ _) (by rw [List.length_take]; omega)
theorem hv_mem {Q : List Raw} {L : List Ent} {R : List Bm} {p : ByteArray} {m : Bm} : m ∈ hvL Q L R p ↔ m ∈ R ∧ p ∈ pkOf Q L m := by
  unfold hvL
  rw [List.mem_filter, inB_iff]
theorem bst_hv (Q : List Raw) (L : List Ent) (p : ByteArray) : ∀ (R : List Bm) (b : Bm), R.foldl (bstS Q L p) b = (hvL Q L R p).foldl (topS plen) b
  | [], _ => rfl
  | m :: R, b => by
    have ih := bst_hv Q L p R
    unfold hvL at ih ⊢
    rw [List.foldl_cons]
    cases h : inB p (pkOf Q L m)
    · rw [List.filter_cons_of_neg (by rw [h]; simp), ih]
      congr 1
      unfold bstS
      rw [h]; simp
    · rw [List.filter_cons_of_pos (by rw [h]), List.foldl_cons, ih]
      congr 1
      unfold bstS topS plen
      rw [h]; simp
theorem bstN_hv (Q : List Raw) (L : List Ent) (p : ByteArray) (R : List Bm) : bstN Q L p R R.length = (hvL Q L R p).foldl (topS plen) (⟨#[]⟩, ⟨#[]⟩) := by
  unfold bstN
  rw [List.take_length, bst_hv]
def slN (l : List UInt8) : Nat := l.count 47
theorem elems_sl (l : List UInt8) : (elems l).length = slN l + 1 := by
  unfold elems slN
  induction l with
  | nil => rfl
  | cons b l ih =>
    unfold cutAt
    by_cases h : b = 47
    · rw [if_pos h, List.length_cons, ih, h, List.count_cons_self]
    · rw [if_neg h, ahead_len _ _ (cutAt_ne 47 l), ih, List.count_cons_of_ne h]
theorem path_few {l : List UInt8} (h : pathErr l = 0) : slN l < 5 := by
  have h1 : longE l = false := by
    unfold pathErr at h
    cases hb : badE l
    · cases hl : longE l
      · rfl
      · rw [hb, hl] at h; simp at h
    · rw [hb] at h; simp at h
  unfold longE at h1
  rw [Bool.or_eq_false_iff] at h1
  have := of_decide_eq_false h1.1
  have := elems_sl l
  omega
def begP (t s : List UInt8) : Prop := s = t ∨ ∃ r, s = t ++ 47 :: r
theorem packT_beg (t x : ByteArray) : begP t.data.toList (packT t x).data.toList := by
  unfold packT
  split
  · exact Or.inl rfl
  · refine Or.inr ⟨x.data.toList, ?_⟩
    simp
theorem beg_less {t u s : List UInt8} (h1 : begP t s) (h2 : begP u s) (h : t.length < u.length) : slN t < slN u := by
  have ht : ∃ r, s = t ++ 47 :: r := by
    rcases h1 with h1 | h1
    · exfalso
      rcases h2 with h2 | ⟨r, h2⟩
      · rw [← h1, ← h2] at h; omega
      · rw [h1] at h2
        have := congrArg List.length h2
        simp at this
        omega
    · exact h1
  obtain ⟨r, hr⟩ := ht
  have hu : u = s.take u.length := by
    rcases h2 with h2 | ⟨r', h2⟩
    · rw [h2, List.take_length]
    · rw [h2, List.take_left]
  have : u = t ++ 47 :: r.take (u.length - t.length - 1) := by
    rw [hr] at hu
    have e : u.length = t.length + (u.length - t.length - 1 + 1) := by omega
    conv at hu => rhs; rw [e]
    rw [List.take_length_add_append, List.take_succ_cons] at hu
    exact hu
  rw [this]
  unfold slN
  rw [List.count_append, List.count_cons_self]
  omega
theorem beg_one {t u : ByteArray} {s : List UInt8} (h1 : begP t.data.toList s) (h2 : begP u.data.toList s) (h : slN t.data.toList = slN u.data.toList) : t = u := by
  rcases Nat.lt_trichotomy t.data.toList.length u.data.toList.length with h3 | h3 | h3
  · have := beg_less h1 h2 h3; omega
  · have e : ∀ x : List UInt8, begP x s → x = s.take x.length := fun x hx => by
      rcases hx with hx | ⟨r, hx⟩
      · rw [hx, List.take_length]
      · rw [hx, List.take_left]
    refine str_ext ?_
    rw [e _ h1, e _ h2, h3]
  · have := beg_less h2 h1 h3; omega
theorem hv_few {w : World} {v : Value} {Q : List Raw} {L : List Ent} (I : Ixs w v Q L) (hc : (chk Q L).1 = 0) {R : List Bm} (hR : ∀ m, m ∈ R → m ∈ univ L) (hn : (R.map fun m => m.1).Nodup) (p : ByteArray) : (hvL Q L R p).length ≤ 19 := by
  have key : ∀ m, m ∈ hvL Q L R p → begP m.1.data.toList p.data.toList ∧ slN m.1.data.toList < 5 := fun m hm => by
    obtain ⟨h1, h2⟩ := hv_mem.1 hm
    refine ⟨?_, ?_⟩
    · unfold pkOf packL at h2
      obtain ⟨x, _, rfl⟩ := List.mem_map.1 h2
      rw [ent_key I (hR m h1)]
      exact packT_beg _ _
    · have hu := hR m h1
      rw [← univ_eq I] at hu
      obtain ⟨r, hr, rfl⟩ := List.mem_map.1 hu
      exact path_few ((good_of I hc).path r hr)
  have hnd : ((hvL Q L R p).map fun m => slN m.1.data.toList).Nodup := by
    have h1 : ((hvL Q L R p).map fun m => m.1).Nodup := by
      unfold hvL
      exact List.Pairwise.sublist (List.Sublist.map _ List.filter_sublist) hn
    unfold List.Nodup at h1 ⊢
    rw [List.pairwise_map] at h1 ⊢
    exact List.Pairwise.imp_of_mem (fun {a b} ha hb hne he => hne (beg_one (key a ha).1 (key b hb).1 he)) h1
  have := nd_len _ (List.range 5) hnd (fun x hx => by
    obtain ⟨m, hm, rfl⟩ := List.mem_map.1 hx
    exact List.mem_range.2 (key m hm).2)
  rw [List.length_map, List.length_range] at this
  omega
noncomputable def ltL (Q : List Raw) (X : List ByteArray) : List Bm := X.map fun t => (t, latV Q t)
theorem who_hv {w : World} {v : Value} {Q : List Raw} {L : List Ent} (I : Ixs w v Q L) (hc : (chk Q L).1 = 0) (hz : shQ Q) {p : ByteArray} {D : List Bm} (h : Falls plen (hvL Q L (ltL Q (phX Q)) p) D) : D = whX Q L p := by
  unfold whX
  rw [if_pos hc]
  refine falls_one h.down (whD_down 100) fun n => ?_
  rw [h.same n]
  have hN : ∀ n', szL plen n (whD Q L p (phX Q) n') = if 0 < n ∧ n ≤ n' then whN Q L p (phX Q) n else [] := by
    intro n'
    induction n' with
    | zero => rw [if_neg (by omega)]; rfl
    | succ k ih =>
      have hA : szL plen n (whN Q L p (phX Q) (k + 1)) = if n = k + 1 then whN Q L p (phX Q) n else [] := by
        unfold szL
        by_cases e : n = k + 1
        · rw [if_pos e, List.filter_eq_self.2 fun m hm => decide_eq_true (show m.1.size = n by rw [(whN_mem.1 hm).2.1, e]), e]
        · rw [if_neg e, List.filter_eq_nil_iff]
          intro m hm
          have := (whN_mem.1 hm).2.1
          simp only [decide_eq_true_eq]
          show ¬ m.1.size = n
          omega
      unfold whD
      have : szL plen n (whN Q L p (phX Q) (k + 1) ++ whD Q L p (phX Q) k) = szL plen n (whN Q L p (phX Q) (k + 1)) ++ szL plen n (whD Q L p (phX Q) k) := by unfold szL; rw [List.filter_append]
      rw [this, hA, ih]
      by_cases e : n = k + 1
      · rw [if_pos e, if_neg (by omega), if_pos (by omega), List.append_nil]
      · rw [if_neg e, List.nil_append]
        by_cases e2 : 0 < n ∧ n ≤ k
        · rw [if_pos e2, if_pos (by omega)]
        · rw [if_neg e2, if_neg (by omega)]
  have hL : szL plen n (hvL Q L (ltL Q (phX Q)) p) = whN Q L p (phX Q) n := by
    unfold szL hvL ltL whN
    rw [List.filter_map, List.filter_map, List.filter_filter]
    congr 1
  rw [hN, hL]
  by_cases e : 0 < n ∧ n ≤ 100
  · rw [if_pos e]
  · rw [if_neg e]
    refine List.eq_nil_iff_forall_not_mem.2 fun m hm => ?_
    obtain ⟨h1, h2, _⟩ := whN_mem.1 hm
    obtain ⟨r, hr, e1⟩ := phX_mem.1 h1
    have h3 := (hz r hr).1
    have h4 := path_pos ((good_of I hc).path r hr)
    rw [len_eq] at h4
    rw [e1] at h3 h4
    omega
theorem ltL_mem {Q : List Raw} {X : List ByteArray} {m : Bm} : m ∈ ltL Q X ↔ m.1 ∈ X ∧ m.2 = latV Q m.1 := by
  unfold ltL
  rw [List.mem_map]
  constructor
  · rintro ⟨t, ht, rfl⟩; exact ⟨ht, rfl⟩
  · rintro ⟨h1, h2⟩; exact ⟨m.1, h1, by rw [← h2]⟩
theorem ltL_nd {Q : List Raw} : ((ltL Q (phX Q)).map fun m => m.1).Nodup := by
  unfold ltL
  rw [List.map_map]
  have e : ((fun m : Bm => m.1) ∘ fun t => (t, latV Q t)) = id := rfl
  rw [e, List.map_id]
  exact (phX_ris Q).imp fun {a b} h e => by rw [e, lt_irrefl] at h; cases h
end Ve
end Go.Proofs.YtjndahjfodnllaaGreatDoor


namespace Go.Proofs.YtjndahjfodnllaaGreatDoor
open Go.RowKit
namespace Ve
def cfP (a b : Bm) : Int := Lib.compareInt (b.1.size : Int) (a.1.size : Int)
theorem cfP_lt : ltOf cfP = gtF plen := by
  funext x y
  unfold ltOf cfP gtF Lib.compareInt plen
  by_cases h : (y.1.size : Int) < (x.1.size : Int)
  · rw [if_pos h, decide_eq_true (by decide), decide_eq_true (by omega)]
  · rw [if_neg h, decide_eq_false (by omega : ¬ y.1.size < x.1.size)]
    split
    · rfl
    · rfl
set_option maxHeartbeats 1000000 in
theorem hk_any (a b : Bm) (w : World) :
    Calls Tryz.prog 72 #[.agg #[.string a.1, .string a.2], .agg #[.string b.1, .string b.2]] w fun e w' => e = .returned (.int .i64 (cfP a b)) ∧ Below w.heap.size w w' := by
  obtain ⟨p, v⟩ := a
  obtain ⟨q, u⟩ := b
  have HB0 := hid (((Below.refl w.heap.size w).alloc (Nat.le_refl _) (.cells #[.string p, .string v] 38)).alloc (by simp) (.cells #[.string q, .string u] 38))
  have HC := hid (fun W => Tryz.cmp_Compare_int (q.size : Int) (p.size : Int) W)
  show Calls Tryz.prog 72 #[.agg #[.string p, .string v], .agg #[.string q, .string u]] w fun e w' => e = .returned (.int .i64 (Lib.compareInt (q.size : Int) (p.size : Int))) ∧ Below w.heap.size w w'
  generalize Lib.compareInt (q.size : Int) (p.size : Int) = z at *
  go_enter Tryz.func72, Tryz.ntmps72
  go_wp2_with fail
  refine (HC.out _).mono ?_
  rintro e w1 ⟨rfl, rfl⟩
  go_wp2_with fail
  go_ret
  exact ⟨rfl, HB0.out⟩
theorem hk_bw (a b : Bm) (w : World) :
    Calls Tryz.prog 72 #[.agg #[.string a.1, .string a.2], .agg #[.string b.1, .string b.2]] w fun e w' => e = .returned (.int .i64 (cfP a b)) ∧ ∃ q os', w' = Go.Sort.grow (w.drewN q) os' :=
  (Mo.calls_ge (hk_any a b w) (fun _ _ h => ⟨_, h.1⟩)).mono fun _ _ ⟨⟨h1, h2⟩, h3⟩ => ⟨h1, grow_of_be h2 h3⟩
theorem cmpP (g n : Nat) (w : World) [Inhabited Bm] : CmpLays Tryz.prog 72 #[] mcells 2 cfP g 0 n w := by
  intro m os dk hs x y
  have e : (#[.agg (mcells x).toArray, .agg (mcells y).toArray] ++ #[] : Array Value) = #[.agg #[.string x.1, .string x.2], .agg #[.string y.1, .string y.2]] := by simp [mcells]
  rw [e]
  exact hk_bw x y _
theorem holds_bm {w0 w : World} {g : Nat} {D : List Bm} (h : Mw w0 w g D) [Inhabited Bm] : Go.Sort.HoldsK mcells 2 w g 0 D.toArray := by
  intro t ht
  rw [Go.Sort.size_flatK] at ht
  rw [Go.Sort.get_flatK _ _ _ _ ht]
  have hi : t / 2 < D.length := by have : t < D.length * 2 := by simpa using ht
                                   omega
  have e : D.toArray[t / 2]! = D[t / 2] := by
    rw [getElem!_pos D.toArray (t / 2) (by simpa using hi)]
    simp
  refine ⟨?_, by rw [Nat.zero_add]; exact h.fz t⟩
  rw [e, Nat.zero_add]
  have hm : t % 2 < 2 := Nat.mod_lt _ (by omega)
  have hdm := Nat.div_add_mod t 2
  match hc : t % 2, hm with
  | 0, _ => have := h.c0 (t / 2) hi; rw [show t / 2 * 2 = t by omega] at this; exact this
  | 1, _ => have := h.c1 (t / 2) hi; rw [show t / 2 * 2 + 1 = t by omega] at this; exact this
theorem ins_mw (w0 w : World) (g cap : Nat) (D : List Bm) (hn : D.length ≤ 1000000) (h : Mw w0 w g D) :
    Calls Tryz.prog 185 #[.slice (some ⟨g, 0, none⟩) D.length cap, .int .i64 0, .int .i64 D.length, .func (.func 72) #[] #[]] w fun e w' => e = .returned (.tuple #[]) ∧ ∃ D', Falls plen D D' ∧ D'.length = D.length ∧ Mw w0 w' g D' := by
  letI : Inhabited Bm := ⟨(⟨#[]⟩, ⟨#[]⟩)⟩
  have hH := holds_bm h
  have eg : ∀ args w, (callFunc 72 args).run Tryz.prog w = .ok (.enter 72 args) w := enters_of Tryz.func72 (by kernel_rfl) rfl
  have hcon := AnyQ.insertionSortCmpFunc ({ Tryz.sortMods with } : SlLaysF0.n20 Tryz.prog Tryz.sortMods_ren) 2 Tryz.isAgg38 Tryz.sizeOf38 mcells (fun _ => rfl) (fun x v hv => by
    simp only [mcells, List.mem_cons, List.not_mem_nil, or_false] at hv
    rcases hv with rfl | rfl <;> rfl) cfP 72 #[] g 0 cap 0 D.toArray.size D.toArray w eg (cmpP g _ w) hH h.hi (Nat.zero_le _) (Nat.le_refl _) (by simp; omega)
  have hsz : D.toArray.size = D.length := by simp
  rw [cfP_lt] at hcon
  have hf := ins_falls plen D.toArray
  rw [hsz] at hcon hf
  have hds : (Go.Sort.insertionSort (gtF plen) D.toArray 0 D.length).size = D.length := by
    have := (Go.Sort.insertionSort_holds (lt := gtF plen) (gtF_swo plen) D.toArray 0 D.length (Nat.zero_le _) (by simp)).1.1
    rw [this, hsz]
  refine Calls.mono hcon ?_
  rintro e w' ⟨he, n, os, rfl⟩
  generalize Go.Sort.insertionSort (gtF plen) D.toArray 0 D.length = d' at *
  have hHd := holdsK_sortWorldK_c mcells 2 w g 0 D.toArray d' n os hH h.hi (by rw [hds, hsz])
  have hg : ∀ j (hj : j < d'.toList.length), d'[j]! = d'.toList[j] := fun j hj => by
    rw [getElem!_pos d' j (by simpa using hj)]; simp
  have cell : ∀ j (hj : j < d'.toList.length) c (hc : c < 2), (sortWorldK mcells 2 w g 0 n d' os).cell? ⟨g, j * 2 + c, none⟩ = some ((mcells d'.toList[j])[c]!) := by
    intro j hj c hc
    have h1 := (hHd.cell (i := j) (c := c) (by simpa using hj) hc).1
    rw [Nat.zero_add, hg j hj] at h1
    exact h1
  refine ⟨he, d'.toList, by simpa using hf, by simpa using hds, ?_⟩
  refine ⟨h.bl.trans ((sorted_belowM mcells n d' os w0.heap.size h.lo h.bl.size)), h.lo, Nat.lt_of_lt_of_le h.hi (size_sortWorldK_c mcells 2 w g 0 n d' os), fun o => ?_, fun j hj => ?_, fun j hj => ?_⟩
  · unfold sortWorldK
    rw [Go.Sort.frozen?_grow _ _ _ (by rw [Go.Sort.size_putRowK]; exact h.hi)]
    unfold Go.Sort.putRowK
    rw [Go.Sort.frozen?_putRow]
    exact h.fz o
  · exact cell j hj 0 (by omega)
  · exact cell j hj 1 (by omega)
theorem insP_nil (a : Option Addr) (c : Nat) (W : World) : Calls Tryz.prog 185 #[.slice a 0 c, .int .i64 0, .int .i64 0, .func (.func 72) #[] #[]] W fun e w' => e = .returned (.tuple #[]) ∧ w' = W := by
  go_enter Tryz.func185, Tryz.ntmps185
  go_wp2_with fail
  go_loop [8] (fun i => i = .int .i64 1) (fun _ => 0)
  case atStart => rfl
  case round =>
    obtain rfl := hrel
    go_wp2_with fail
    go_end0
    exact ⟨rfl, rfl⟩
set_option maxRecDepth 100000 in
set_option maxHeartbeats 2000000 in
theorem stab_in (a : Option Addr) (n c : Nat) (w : World) (hn : n ≤ 19) (Post : World → Prop) (h : Calls Tryz.prog 185 #[.slice a n c, .int .i64 0, .int .i64 n, .func (.func 72) #[] #[]] w fun e w' => e = .returned (.tuple #[]) ∧ Post w') :
    Calls Tryz.prog 128 #[.slice a n c, .int .i64 n, .func (.func 72) #[] #[]] w fun e w' => e = .returned (.tuple #[]) ∧ Post w' := by
  have HI := hid h
  have h1 : ¬ (20 : Int) ≤ (n : Int) := by omega
  have h2 : ¬ (20 : Int) < (n : Int) := by omega
  clear h
  go_enter Tryz.func128, Tryz.ntmps128
  go_wp2_with fail
  go_loopw [7, 8] (fun av bv wr => av = .int .i64 0 ∧ bv = .int .i64 20 ∧ wr = w) (fun _ _ _ => 0)
  case atStart => exact ⟨rfl, rfl, rfl⟩
  case round =>
    obtain ⟨rfl, rfl, rfl⟩ := hrel
    go_wp2_with fail
    refine HI.out.mono ?_
    rintro e w1 ⟨rfl, hp⟩
    have HP := hid hp
    clear hp
    go_wp2_with fail
    go_loopw [6] (fun sv wr' => sv = .int .i64 20 ∧ wr' = w1) (fun _ _ => 0)
    case atStart => exact ⟨rfl, rfl⟩
    case round =>
      obtain ⟨rfl, rfl⟩ := hrel
      go_wp2_with fail
      first | go_end0 | go_ret
      exact ⟨rfl, HP.out⟩
set_option maxHeartbeats 1000000 in
theorem ssf_in (a : Option Addr) (n c : Nat) (w : World) (hn : n ≤ 19) (Post : World → Prop) (h : Calls Tryz.prog 185 #[.slice a n c, .int .i64 0, .int .i64 n, .func (.func 72) #[] #[]] w fun e w' => e = .returned (.tuple #[]) ∧ Post w') :
    Calls Tryz.prog 71 #[.slice a n c, .func (.func 72) #[] #[]] w fun e w' => e = .returned (.tuple #[]) ∧ Post w' := by
  have HI := hid (stab_in a n c w hn Post h)
  clear h
  go_enter Tryz.func71, Tryz.ntmps71
  go_wp2_with fail
  refine HI.out.mono ?_
  rintro e w1 ⟨rfl, hp⟩
  have HP := hid hp
  clear hp
  go_wp2_with fail
  go_end0
  exact ⟨rfl, HP.out⟩
end Ve
end Go.Proofs.YtjndahjfodnllaaGreatDoor


namespace Go.Proofs
open Go.Shelf
def Tryz.lays110_ren : Go.Shelf.Ren := ⟨fun | 110 => 70 | 109 => 127 | n => n, fun | 31 => 33 | 9 => 9 | 4 => 4 | 3 => 3 | 0 => 0 | n => n, fun | n => n⟩
theorem Tryz.lays110 : Go.Proofs.Lays.n110 Tryz.prog Tryz.lays110_ren := {
  mixed := by kernel_rfl
  f109 := Tryz.func127.trans (congrArg some (by kernel_rfl))
  f110 := Tryz.func70.trans (congrArg some (by kernel_rfl))
  t0 := Tryz.underlying0
  a0 := Tryz.isAgg0
  z0 := Tryz.sizeOf0
  v0 := Tryz.zeroValue0
  t3 := Tryz.underlying3
  a3 := Tryz.isAgg3
  z3 := Tryz.sizeOf3
  v3 := Tryz.zeroValue3
  t4 := Tryz.underlying4
  a4 := Tryz.isAgg4
  z4 := Tryz.sizeOf4
  v4 := Tryz.zeroValue4
  t9 := Tryz.underlying9
  a9 := Tryz.isAgg9
  z9 := Tryz.sizeOf9
  v9 := Tryz.zeroValue9
  t31 := Tryz.underlying33
  a31 := Tryz.isAgg33
  z31 := Tryz.sizeOf33
  v31 := Tryz.zeroValue33 }
open Go.Lib in
theorem Tryz.slices_Contains_string (b off n c : Nat) (zs : List ByteArray) (x : ByteArray) (w : World) (hz : n ≤ zs.length) (hbig : n ≤ 9223372036854775807) (hc : ∀ j, j < zs.length → w.cell? ⟨b, off + j, none⟩ = some (.string (zs.getD j ByteArray.empty))) :
    Calls Tryz.prog 70 #[.slice (some ⟨b, off, none⟩) n c, .string x] w fun e w' => e = .returned (.bool (Lib.containsS (zs.take n) x)) ∧ w' = w := Any.slices_Contains_string Tryz.lays110 b off n c zs x w hz hbig hc
open Go.Lib in
theorem Tryz.slices_Contains_string_empty (a : Option Addr) (c : Nat) (x : ByteArray) (w : World) :
    Calls Tryz.prog 70 #[.slice a 0 c, .string x] w fun e w' => e = .returned (.bool false) ∧ w' = w := Any.slices_Contains_string_empty Tryz.lays110 a c x w
end Go.Proofs


namespace Go.Proofs.YtjndahjfodnllaaGreatDoor
open Go.RowKit
namespace Ve
theorem conS_is (X : List ByteArray) (p : ByteArray) : Lib.containsS X p = inB p X := by
  rw [Bool.eq_iff_iff, Lib.containsS_iff, inB_iff]
theorem con_any (X : List ByteArray) (p : ByteArray) (v : Value) (w : World) (hX : X.length ≤ 1000000) (hv : TxAt w v X) :
    Calls Tryz.prog 70 #[v, .string p] w fun e w' => e = .returned (.bool (inB p X)) ∧ w' = w := by
  obtain ⟨a, c, rfl, hc, h⟩ := hv
  cases X with
  | nil => exact Tryz.slices_Contains_string_empty a c p w
  | cons x r =>
    obtain ⟨b, o, rfl, h2⟩ := h (by simp)
    have hcon := Tryz.slices_Contains_string b o (x :: r).length c (x :: r) p w (Nat.le_refl _) (by omega) (fun j hj => by
      rw [h2 j hj, List.getD_eq_getElem?_getD, List.getElem?_eq_getElem hj]; rfl)
    rw [List.take_length, conS_is] at hcon
    exact hcon
set_option maxRecDepth 100000 in
set_option maxHeartbeats 4000000 in
theorem hav_any (Q : List Raw) (L : List Ent) (R : List Bm) (p : ByteArray) (v rv : Value) (w : World) (hL : L.length ≤ 1000) (sh : ∀ e, e ∈ L → ShE e) (hR : R.length ≤ 1000) (hms : ∀ m, m ∈ R → m.1.size < 999999 ∧ ∃ k : Nat, idxOf (isM m) Q = (k : Int)) (I : Ixs w v Q L) (hr : MsAt w rv R) (h19 : (hvL Q L R p).length ≤ 19) :
    Calls Tryz.prog 35 #[v, rv, .string p] w fun e w' => ∃ u D, e = .returned u ∧ Falls plen (hvL Q L R p) D ∧ Mr w w' u D := by
  have HPK := hid (fun m (hm : m ∈ R) W (h : Below w.heap.size w W) => show Calls Tryz.prog 30 #[v, .agg #[.string m.1, .string m.2]] W fun e w' => ∃ u, e = .returned u ∧ w'.ownsRow W.heap.size 9 1 u (pkOf Q L m).length ((pkOf Q L m).map Value.string) ∧ Below W.heap.size W w' by
    obtain ⟨h1, k, h2⟩ := hms m hm
    exact pks_any Q L m k v W hL sh h1 (I.below h) h2)
  have HCN := hid (fun m (hm : m ∈ R) u W (h : TxAt W u (pkOf Q L m)) => con_any (pkOf Q L m) p u W (by
    obtain ⟨_, k, h2⟩ := hms m hm
    obtain ⟨_, hl, _, h3, _⟩ := pk_is I h2
    rw [h3, List.length_map]
    have := (sh _ (List.getElem_mem hl)).pn
    omega) h)
  have HMR := hid (fun W (h : Below w.heap.size w W) => hr.below h)
  have HNX := hid (fun k (hk : k < R.length) => hv_next (Q := Q) (L := L) (p := p) hk)
  have HLE := hid (fun k => hv_le Q L R p k)
  obtain ⟨a, c, hv1, -⟩ := id I.es
  subst hv1
  obtain ⟨ra, rc, hrv, -⟩ := id hr
  subst hrv
  obtain ⟨i0, hi0, hz0, hz1, hz2⟩ := info_parts infoMod
  have H19 := hid h19
  clear I hr hms sh hL h19
  go_enter Tryz.func35, Tryz.ntmps35
  go_wp2_with fail
  go_loopw [7, 12] (fun ov iv wr => ∃ i : Nat, i ≤ R.length ∧ iv = .int .i64 i ∧ Hid (wr.ownsRow w.heap.size 38 2 ov (hvL Q L (R.take i) p).length (flatM (hvL Q L (R.take i) p))) ∧ Hid (Below w.heap.size w wr)) (fun _ iv _ => R.length - (intOf iv).toNat)
  case atStart => exact ⟨0, Nat.zero_le _, rfl, hid (World.ownsRow_nil _ _ _ _), hid (Below.refl _ _)⟩
  case round =>
    obtain ⟨i, hi, rfl, HOW, HBr⟩ := hrel
    by_cases hlt : i < R.length
    · have hiI := ix_lt hlt
      have hii := ix_pos i
      have HLI := hid hlt
      obtain ⟨xb, xo, hxa, y0, y1⟩ := (HMR.out _ HBr.out).cells hlt
      subst hxa
      have HN := hid (HNX.out i hlt)
      have HP := hid (HPK.out R[i] (List.getElem_mem hlt))
      have HC := hid (HCN.out R[i] (List.getElem_mem hlt))
      have HLN := hid (HLE.out i)
      generalize R[i] = x at *
      obtain ⟨x1, x2'⟩ := x
      obtain ⟨SX, hSX⟩ : ∃ SX, hvL Q L (R.take i) p = SX := ⟨_, rfl⟩
      rw [hSX] at HOW HN HLN
      generalize pkOf Q L (x1, x2') = Y at *
      have HBa := hid ((Below.refl wr.heap.size wr).alloc (Nat.le_refl _) (.cells #[.string x1, .string x2'] 38))
      have HBb := hid (HBr.out.trans (HBa.out.mono HBr.out.size))
      have HNW := hid (heap_new wr (.cells #[.string x1, .string x2'] 38))
      have HOa := hid (owns_below HOW.out HBa.out)
      clear hSX hlt HOW
      go_wp2_with fail
      refine (HP.out _ HBb.out).mono ?_
      rintro e w2 ⟨u, rfl, hu, hb⟩
      have HB2 := hid (HBb.out.trans (hb.mono HBb.out.size))
      have HO2 := hid (owns_below HOa.out hb)
      have HN2 := hid ((hb.block _ (lt_of_blk HNW.out)).trans HNW.out)
      have HC2 := hid (HC.out u w2 (own_tx hu))
      obtain ⟨ua, uc, hus⟩ := own_slN hu
      subst hus
      clear hu hb HP HC HNW HOa
      go_wp2_with fail
      refine HC2.out.mono ?_
      rintro e w3 ⟨rfl, rfl⟩
      clear HC2
      have s0 : w3.cell? ⟨wr.heap.size, 0, none⟩ = some (.string x1) := by rw [Lib.cell_of_heap HN2.out]; rfl
      have s1 : w3.cell? ⟨wr.heap.size, 1, none⟩ = some (.string x2') := by rw [Lib.cell_of_heap HN2.out]; rfl
      cases hin : inB p Y
      · rw [hin, if_neg (by simp)] at HN
        clear hin
        go_wp2_with fail
        go_roundw
        case rel => exact ⟨i + 1, HLI.out, by first | exact nr_idx i | exact nx_idx HLI.out (by omega : R.length ≤ 1000000), by rw [HN.out]; exact HO2, HB2⟩
        case measure => first | exact nr_meas HLI.out | exact nx_meas HLI.out (by omega : R.length ≤ 1000000)
      · rw [hin, if_pos rfl] at HN
        have hsx := HLN.out
        clear hin
        go_wp2_with (at_builtin; refine wpList_append_own _ rfl _ _ 23 rfl w.heap.size 38 i0 _ 2 32 Tryz.underlying23 hi0 hz0 hz1 hz2 rfl (by decide) _ _ _ rfl (HO2.out.alloc _) ⟨w3.heap.size, 0, none⟩ 1 1 [.string x1, .string x2'] rfl rfl ?c1 ?c2 ?c3 ?c4 ?c5 ?_)
        case c1 => exact World.news_of_block (cs := #[.string x1, .string x2']) (heap_new _ _)
        case c2 => intro u hu; simp at hu; rcases hu with rfl | rfl <;> rfl
        case c3 => unfold maxLen; omega
        case c4 => omega
        case c5 => have := HB2.out.size; simp; omega
        intro v' w6 hown hgrow _
        have HR3 := hid (rel_app2 HB2.out.size HB2.out HO2.out (Below.refl _ _) hgrow)
        have HO4 := hid (show w6.ownsRow w.heap.size 38 2 v' (SX ++ [(x1, x2')]).length (flatM (SX ++ [(x1, x2')])) by rw [List.length_append, flatM_app]; exact hown)
        clear hown hgrow
        go_wp2_with fail
        go_roundw
        case rel => exact ⟨i + 1, HLI.out, by first | exact nr_idx i | exact nx_idx HLI.out (by omega : R.length ≤ 1000000), by rw [HN.out]; exact HO4, HR3⟩
        case measure => first | exact nr_meas HLI.out | exact nx_meas HLI.out (by omega : R.length ≤ 1000000)
    · have hiI := ix_nlt hlt
      have HTR := hid (show R.take i = R from List.take_of_length_le (by omega))
      rw [HTR.out] at HOW
      have HMM := hid (mr_own HOW.out HBr.out)
      obtain ⟨_, ma, mc, hmv, _⟩ := HMM.out
      subst hmv
      have HSS := hid (show Calls Tryz.prog 71 #[.slice ma (hvL Q L R p).length mc, .func (.func 72) #[] #[]] wr fun e w' => e = .returned (.tuple #[]) ∧ ∃ D, Falls plen (hvL Q L R p) D ∧ D.length = (hvL Q L R p).length ∧ Mr w w' (.slice ma (hvL Q L R p).length mc) D from
        ssf_in ma _ mc wr H19.out _ (by
          obtain ⟨h0, a', c', e, hc, hk⟩ := HMM.out
          injection e with e1 e2 e3
          subst e1 e3
          rcases hk with ⟨hn, hz⟩ | ⟨g, rfl, hM⟩
          · rw [hn]
            refine (insP_nil ma mc wr).mono ?_
            rintro e w1 ⟨rfl, rfl⟩
            exact ⟨rfl, [], ⟨List.Pairwise.nil, fun n => rfl⟩, rfl, h0, ma, mc, rfl, Nat.zero_le _, Or.inl ⟨rfl, hz⟩⟩
          · refine (ins_mw w wr g mc _ (by have := H19.out; omega) hM).mono ?_
            rintro e w1 ⟨rfl, D, h1, h2, h3⟩
            exact ⟨rfl, D, h1, h2, h3.bl, _, mc, by rw [h2], by rw [h2]; exact hc, Or.inr ⟨g, rfl, h3⟩⟩))
      clear hlt HOW HMM
      generalize (hvL Q L R p).length = hn at *
      go_wp2_with fail
      refine HSS.out.mono ?_
      rintro e w1 ⟨rfl, D, h1, h2, h3⟩
      have HDD := hid (⟨D, h1, h3⟩ : ∃ D, Falls plen (hvL Q L R p) D ∧ Mr w w1 (.slice ma hn mc) D)
      clear h1 h2 h3
      go_wp2_with fail
      go_ret
      obtain ⟨D, h1, h3⟩ := HDD.out
      exact ⟨_, D, rfl, h1, h3⟩
end Ve
end Go.Proofs.YtjndahjfodnllaaGreatDoor


namespace Go.Proofs.YtjndahjfodnllaaGreatDoor
open Go.RowKit Go.Shelf Go.Sort
namespace Ve
theorem cb_lt : ∀ a b : List UInt8, Lib.compareBytes a b < 0 → a < b
  | [], [], h => by simp [Lib.compareBytes] at h
  | [], _ :: _, _ => List.nil_lt_cons _ _
  | _ :: _, [], h => by simp [Lib.compareBytes] at h
  | a :: xs, b :: ys, h => by
    unfold Lib.compareBytes at h
    split at h
    · next h1 => exact List.cons_lt_cons_iff.2 (Or.inl h1)
    · next h1 =>
      split at h
      · simp at h
      · next h2 => exact List.cons_lt_cons_iff.2 (Or.inr ⟨UInt8.le_antisymm (UInt8.not_lt.1 h2) (UInt8.not_lt.1 h1), cb_lt xs ys h⟩)
theorem tx_ris (X : List ByteArray) : tx (risB (bl X)) = X.foldl insT [] := by
  refine ris_one ?_ (fold_ris rsX_nil) fun t => ?_
  · unfold rsX tx
    rw [List.pairwise_map]
    have h1 : (risB (bl X)).Pairwise fun x y => x ≤ y := by
      unfold risB Lib.compact Lib.compactUpTo
      refine List.Pairwise.sublist (List.Sublist.map _ List.filter_sublist) ?_
      have e : (List.range (srtB (bl X)).length).map (fun j => (srtB (bl X)).toArray[j]!) = srtB (bl X) := by
        have := Lib.range_map_get (srtB (bl X)).toArray
        simpa using this
      rw [e]
      exact srtB_le _
    exact (h1.and (risB_nodup (bl X))).imp fun {x y} ⟨ha, hn⟩ => by
      rcases lt_three (ba' x) (ba' y) with h | h | h
      · exact h
      · exact absurd (by have := congrArg (fun z : ByteArray => z.data.toList) h; simpa [ba'] using this) hn
      · have h2 := cb_lt _ _ (of_decide_eq_true h)
        simp only [ba'] at h2
        exact absurd h2 ha
  · rw [fold_mem]
    unfold tx
    rw [List.mem_map]
    constructor
    · rintro ⟨s, hs, rfl⟩
      obtain ⟨x, hx, rfl⟩ := List.mem_map.1 (risB_mem.1 hs)
      exact Or.inr (by rw [show ba' x.data.toList = x from str_ext (by simp [ba'])]; exact hx)
    · rintro (h | h)
      · cases h
      · exact ⟨t.data.toList, risB_mem.2 (List.mem_map.2 ⟨t, h, rfl⟩), str_ext (by simp [ba'])⟩
theorem sortT_own (X : List ByteArray) (v : Value) (w W : World) (hX : X.length ≤ 1000000) (ho : W.ownsRow w.heap.size 9 1 v X.length (X.map Value.string)) (hb : Below w.heap.size w W) :
    Calls Tryz.prog 31 #[v] W fun e w' => e = .returned (.tuple #[]) ∧ w'.ownsRow w.heap.size 9 1 v X.length ((srtB (bl X)).map encStr) ∧ Below w.heap.size w w' := by
  rcases ho.2 with ⟨rfl, hz⟩ | ⟨gb, cap, cur, rfl, hbase, hgb, r1, r2, r3, r4⟩
  · have hss : X = [] := List.eq_nil_of_length_eq_zero hz
    subst hss
    refine (Tryz.slices_Sort_string_none none 0 W).mono ?_
    rintro e w1 ⟨rfl, rfl⟩
    exact ⟨rfl, by simpa [srtB, bl] using World.ownsRow_nil w1 w.heap.size 9 1, hb⟩
  · have hlen : (bl X).length = X.length := bl_len X
    have hH : Holds encStr W gb 0 (bl X).toArray := holds_of_block hgb (by rw [map_bl, hlen]; simpa using r4)
    have hgl : gb < W.heap.size := (Array.getElem?_eq_some_iff.1 hgb).1
    have HS := Tryz.slices_Sort_string gb 0 cap (bl X) W hH hgl (by rw [hlen]; omega)
    rw [hlen] at HS
    refine HS.mono ?_
    rintro e w1 ⟨rfl, nn, os, rfl⟩
    refine ⟨rfl, ?_, hb.grown (grownBy_sorted (w := W) (g := gb) (n := nn) (os := os) (srtB (bl X)).toArray) hb.size (fun j hj => by cases hj; exact hbase)⟩
    have HO := ownsRow_sorted (n := nn) (os := os) (ss := bl X) (ts := srtB (bl X)) (srtB_len _) hbase hgb (by rw [hlen]; exact r1) r2 r3
    rw [hlen] at HO
    exact HO
theorem compT_own (X : List ByteArray) (v : Value) (w W : World) (hX : X.length ≤ 1000000) (ho : W.ownsRow w.heap.size 9 1 v X.length ((srtB (bl X)).map encStr)) (hb : Below w.heap.size w W) :
    Calls Tryz.prog 32 #[v] W fun e w' => ∃ u, e = .returned u ∧ w'.ownsRow w.heap.size 9 1 u (X.foldl insT []).length ((X.foldl insT []).map Value.string) ∧ Below w.heap.size w w' := by
  rw [← tx_ris]
  rcases ho.2 with ⟨rfl, hz⟩ | ⟨gb, cap, cur, rfl, hbase, hgb, r1, r2, r3, r4⟩
  · have hss : X = [] := List.eq_nil_of_length_eq_zero hz
    subst hss
    refine (Tryz.slices_Compact_string_empty none 0 W).mono ?_
    rintro e w1 ⟨rfl, rfl⟩
    exact ⟨_, rfl, by simpa [risB, srtB, bl, tx, Lib.compact, Lib.compactUpTo] using World.ownsRow_nil w1 w.heap.size 9 1, hb⟩
  · have hlen : (srtB (bl X)).length = X.length := by rw [srtB_len, bl_len]
    have hH : Holds encStr W gb 0 (srtB (bl X)).toArray := holds_of_block hgb (by rw [hlen]; simpa using r4)
    have HS := Tryz.slices_Compact_string gb 0 cap (srtB (bl X)) W hH (by rw [hlen]; omega) (by rw [hlen]; exact r1)
    rw [hlen] at HS
    have hcl := compact_le (srtB (bl X))
    refine HS.mono ?_
    rintro e w1 ⟨rfl, nn, hw1⟩
    have HBB := hb.grown (grownBy_compact (w := W) (g := gb) (n := nn) (Lib.compact (srtB (bl X)) ++ List.replicate (X.length - (Lib.compact (srtB (bl X))).length) []).toArray) hb.size (fun j hj => by cases hj; exact hbase)
    have HOO := owns_compact (n := nn) (base := w.heap.size) (C := risB (bl X)) (R := List.replicate (X.length - (Lib.compact (srtB (bl X))).length) []) hbase hgb (by rw [List.length_replicate]; unfold risB; omega) r2 r3
    rw [← hw1] at HBB
    have HOO2 : w1.ownsRow w.heap.size 9 1 (.slice (some ⟨gb, 0, none⟩) (risB (bl X)).length cap) (risB (bl X)).length ((risB (bl X)).map encStr) := by rw [hw1]; exact HOO
    exact ⟨_, rfl, own_txB HOO2, HBB⟩
theorem bothT_run (X Y : List ByteArray) (dv sv : Value) (W : World) (B C : Nat) (hB : B ≤ W.heap.size) (hX : X.length ≤ 1000000) (hY : Y.length ≤ 1000000) (ho : W.ownsRow B 9 1 dv X.length (X.map Value.string)) (h : W.ownsRow C 9 1 sv Y.length (Y.map Value.string)) :
    ∃ v' W', (Builtin.append_ #[33, 33] 33 #[dv, sv]).run Tryz.prog W = .ok v' W' ∧ W'.ownsRow B 9 1 v' (X ++ Y).length ((X ++ Y).map Value.string) ∧ W.grownBy W' dv.ownBlock := by
  obtain ⟨i0, hi, hz0, hz1, hz2⟩ := info_parts infoStr
  rcases h.2 with ⟨rfl, hz⟩ | ⟨g, cap, cur, rfl, hbase, hgb, r1, r2, r3, r4⟩
  · have hss : Y = [] := List.eq_nil_of_length_eq_zero hz
    subst hss
    refine ⟨dv, W, ?_, by simpa using ho, ⟨rfl, rfl, rfl, Nat.le_refl _, fun _ _ _ => rfl⟩⟩
    exact run_append_owned_none (P := Tryz.prog) (w := W) B 33 33 9 i0 1 Tryz.underlying33 hi dv X.length (X.map Value.string) ho
  · obtain ⟨v', W', h3, h4, h5, _⟩ := run_append_own (P := Tryz.prog) W B 33 33 9 i0 _ 1 16 Tryz.underlying33 hi hz0 hz1 hz2 rfl (by decide) dv X.length (X.map Value.string) ho ⟨g, 0, none⟩ Y.length cap (Y.map Value.string) (by simp) (fun j u hj => by
      rw [Addr.add_lit, Nat.zero_add]
      rw [← r4, List.getElem?_take] at hj
      split at hj
      · simp only [World.cell?, hgb]
        simpa using hj
      · cases hj) (fun u hu => by obtain ⟨s, _, rfl⟩ := List.mem_map.1 hu; rfl) (by unfold maxLen; omega) (by omega) hB
    exact ⟨v', W', h3, by rw [List.length_append, List.map_append]; exact h4, h5⟩
theorem slF_all {Q : List Raw} {R : List Bm} (h : (slF Q R).1 = 0) : ∀ i (hi : i < R.length), ∃ k : Nat, idxOf (isM R[i]) Q = (k : Int) := fun i hi => by
  have h1 := codeE_all (show codeE (nonE Q R) R.length = 0 from h) i hi
  rw [nonE_at hi] at h1
  unfold nonW at h1
  rcases idx_nat (isM R[i]) Q with h2 | h2
  · rw [h2, if_pos (by decide)] at h1; cases h1
  · exact h2
theorem slF_zero {Q : List Raw} {R : List Bm} (h : (slF Q R).1 = 0) : slF Q R = (0, none) :=
  nonE_good fun j hj => by
    obtain ⟨k, hk⟩ := slF_all h j hj
    rw [hk]; omega
def flP (Q : List Raw) (L : List Ent) (R : List Bm) : List ByteArray := R.flatMap (pkOf Q L)
theorem fl_next {Q : List Raw} {L : List Ent} {R : List Bm} {k : Nat} (hk : k < R.length) : flP Q L (R.take (k + 1)) = flP Q L (R.take k) ++ pkOf Q L R[k] := by
  unfold flP
  rw [List.take_succ_eq_append_getElem hk, List.flatMap_append]; simp
set_option maxRecDepth 100000 in
set_option maxHeartbeats 4000000 in
theorem pall_any (Q : List Raw) (L : List Ent) (R : List Bm) (v rv : Value) (A : Nat → Addr) (m : Int) (w : World) (hL : L.length ≤ 200) (sh : ∀ e, e ∈ L → ShE e) (hq : shQ Q) (hR : R.length ≤ 1000) (S : Te w A m) (I : Ixs w v Q L) (hr : MsAt w rv R) :
    Calls Tryz.prog 12 #[v, rv] w fun e w' => ∃ u x, e = .returned (.tuple #[u, x]) ∧ TxAt w' u (alX Q L R) ∧ ErrAt w' A x (alF Q L R).1 (alF Q L R).2 ∧ Below w.heap.size w w' := by
  have HIC := hid (icheck_any Q L v A m w (by omega) sh S I)
  have HCM := hid (fun W (h : Below w.heap.size w W) => cmods_any Q R v rv A m W (by rw [I.ln]; omega) (by omega) (S.below h) (I.es.below h) (hr.below h))
  have hpn : ∀ x : Bm, ∀ k : Nat, idxOf (isM x) Q = (k : Int) → (pkOf Q L x).length ≤ 1000 := fun x k h2 => by
    obtain ⟨_, hl, _, h3, _⟩ := pk_is I h2
    rw [h3, List.length_map]
    exact (sh _ (List.getElem_mem hl)).pn
  have HPK := hid (fun x (k : Nat) (hk : idxOf (isM x) Q = (k : Int)) W (h : Below w.heap.size w W) => And.intro (hpn x k hk) (pks_any Q L x k v W (by omega) sh (by
    obtain ⟨hk2, _, h3, _⟩ := pk_is I hk
    rw [← h3]
    have := (hq _ (List.getElem_mem hk2)).1
    omega) (I.below h) hk))
  have HMR := hid (fun W (h : Below w.heap.size w W) => hr.below h)
  have HNX := hid (fun k (hk : k < R.length) => fl_next (Q := Q) (L := L) hk)
  obtain ⟨a, c, hv1, -⟩ := id I.es
  subst hv1
  obtain ⟨ra, rc, hrv, -⟩ := id hr
  subst hrv
  by_cases hc : (chk Q L).1 = 0
  · have hAF : alF Q L R = slF Q R := by unfold alF; rw [if_neg (by simp [hc])]
    by_cases hs : (slF Q R).1 = 0
    · have hAX : alX Q L R = (flP Q L R).foldl insT [] := by
        unfold alX; rw [hAF, if_pos hs]; rfl
      have HFO := hid (slF_all hs)
      rw [hAX, hAF]
      have HE := hid (show slF Q R = (0, none) from slF_zero hs)
      rw [HE.out]
      obtain ⟨ans, hans⟩ : ∃ ans, ans = (flP Q L R).foldl insT [] := ⟨_, rfl⟩
      rw [← hans]
      have HANS := hid hans
      clear hans
      have HS0 := hid (show codeE (nonE Q R) R.length = 0 from hs)
      clear hAX hAF hpn S I hr hq sh
      go_enter Tryz.func12, Tryz.ntmps12
      go_wp2_with fail
      refine HIC.out.mono ?_
      rintro e w1 ⟨x, rfl, he, hb⟩
      rw [hc] at he
      have HB1 := hid hb
      rcases he.kind with ⟨-, rfl⟩ | ⟨h0, -⟩
      · clear he hb HIC hc hs
        go_wp2_with fail
        refine (HCM.out w1 HB1.out).mono ?_
        rintro e w2 ⟨x, rfl, he, hb⟩
        rw [HS0.out] at he
        have HB2 := hid (HB1.out.trans (hb.mono HB1.out.size))
        rcases he.kind with ⟨-, rfl⟩ | ⟨h0, -⟩
        · clear he hb HCM HB1
          go_wp2_with fail
          go_loopw [8, 24] (fun ov iv wr => ∃ i : Nat, i ≤ R.length ∧ iv = .int .i64 i ∧ Hid (wr.ownsRow w.heap.size 9 1 ov (flP Q L (R.take i)).length ((flP Q L (R.take i)).map Value.string)) ∧ Hid ((flP Q L (R.take i)).length ≤ i * 1000) ∧ Hid (Below w.heap.size w wr)) (fun _ iv _ => R.length - (intOf iv).toNat)
          case atStart => exact ⟨0, Nat.zero_le _, rfl, hid (World.ownsRow_nil _ _ _ _), hid (Nat.le_refl _), HB2⟩
          case round =>
            obtain ⟨i, hi, rfl, HOW, HSL, HBr⟩ := hrel
            by_cases hlt : i < R.length
            · have hiI := ix_lt hlt
              have hii := ix_pos i
              have HLI := hid hlt
              obtain ⟨xb, xo, hxa, y0, y1⟩ := (HMR.out _ HBr.out).cells hlt
              subst hxa
              have HN := hid (HNX.out i hlt)
              obtain ⟨kx, hkx⟩ := HFO.out i hlt
              have HP := hid (HPK.out R[i] kx hkx)
              clear hkx
              generalize R[i] = x at *
              obtain ⟨x1, x2'⟩ := x
              obtain ⟨SX, hSX⟩ : ∃ SX, flP Q L (R.take i) = SX := ⟨_, rfl⟩
              rw [hSX] at HOW HN HSL
              generalize pkOf Q L (x1, x2') = Y at *
              have HBa := hid ((Below.refl wr.heap.size wr).alloc (Nat.le_refl _) (.cells #[.string x1, .string x2'] 38))
              have HBb := hid (HBr.out.trans (HBa.out.mono HBr.out.size))
              have HOa := hid (owns_below HOW.out HBa.out)
              clear hSX hlt HOW
              go_wp2_with fail
              refine (HP.out _ HBb.out).2.mono ?_
              rintro e w4 ⟨u, rfl, hu, hb⟩
              have HYL := hid (HP.out _ HBb.out).1
              have HB4 := hid (HBb.out.trans (hb.mono HBb.out.size))
              have HO4 := hid (owns_below HOa.out hb)
              obtain ⟨v2, W2, hrun, ho2, hg2⟩ := bothT_run SX Y _ u w4 w.heap.size _ HB4.out.size (by have := HSL.out; omega) (by have := HYL.out; omega) HO4.out hu
              have HRUN := hid hrun
              have HO5 := hid ho2
              have HB5 := hid (HB4.out.grown hg2 HB4.out.size (fun k hk => (HO4.out.lt k hk).1))
              have HSL5 := hid (show (SX ++ Y).length ≤ (i + 1) * 1000 by have := HSL.out; have := HYL.out; rw [List.length_append]; omega)
              obtain ⟨ua, uc, hus⟩ := own_slN hu
              subst hus
              generalize SX ++ Y = ZZ at *
              clear hu hb hrun ho2 hg2 HP HOa
              go_wp2_with (at_builtin; refine Lib.wpList_append_run _ rfl _ _ _ _ rfl _ _ rfl rfl _ _ HRUN.out ?_)
              go_roundw
              case rel => exact ⟨i + 1, HLI.out, by first | exact nr_idx i | exact nx_idx HLI.out (by omega : R.length ≤ 1000000), by rw [HN.out]; exact HO5, by rw [HN.out]; exact HSL5, HB5⟩
              case measure => first | exact nr_meas HLI.out | exact nx_meas HLI.out (by omega : R.length ≤ 1000000)
            · have hiI := ix_nlt hlt
              have HTR := hid (show R.take i = R from List.take_of_length_le (by omega))
              rw [HTR.out] at HOW HSL
              obtain ⟨FX, hFX⟩ : ∃ FX, flP Q L R = FX := ⟨_, rfl⟩
              rw [hFX] at HOW HSL HANS
              have hfl : FX.length ≤ 1000000 := by have := HSL.out; omega
              obtain ⟨va, vc, hvs⟩ := own_slN HOW.out
              subst hvs
              have HSO := hid (sortT_own FX _ w wr hfl HOW.out HBr.out)
              have HCO := hid (fun W h1 h2 => compT_own FX (.slice va FX.length vc) w W hfl h1 h2)
              rw [← HANS.out] at HCO
              clear hlt HOW HSL hFX hfl
              generalize FX.length = fl at *
              go_wp2_with fail
              refine HSO.out.mono ?_
              rintro e w5 ⟨rfl, ho, hb⟩
              have HC5 := hid (HCO.out w5 ho hb)
              clear ho hb HCO HSO
              go_wp2_with fail
              refine HC5.out.mono ?_
              rintro e w6 ⟨u, rfl, ho, hb⟩
              have HT6 := hid (own_tx ho)
              have HB6 := hid hb
              obtain ⟨ua, uc, hus⟩ := own_slN ho
              subst hus
              clear ho hb HC5
              go_wp2_with fail
              go_ret2
              exact ⟨_, _, rfl, HT6.out, rfl, HB6.out⟩
        · exact absurd rfl h0
      · exact absurd rfl h0
    · have hAX : alX Q L R = [] := by unfold alX; rw [hAF, if_neg hs]
      rw [hAX, hAF]
      have HS0 := hid hs
      clear hAX hAF hpn S I hr hq sh
      go_enter Tryz.func12, Tryz.ntmps12
      go_wp2_with fail
      refine HIC.out.mono ?_
      rintro e w1 ⟨x, rfl, he, hb⟩
      rw [hc] at he
      have HB1 := hid hb
      rcases he.kind with ⟨-, rfl⟩ | ⟨h0, -⟩
      · clear he hb HIC hc hs
        go_wp2_with fail
        refine (HCM.out w1 HB1.out).mono ?_
        rintro e w2 ⟨x, rfl, he, hb⟩
        have HB2 := hid (HB1.out.trans (hb.mono HB1.out.size))
        have HE2 := hid (show ErrAt w2 A x (slF Q R).1 (slF Q R).2 from he)
        rcases he.kind with ⟨h0, -⟩ | ⟨-, T', ea, rfl⟩
        · exact absurd h0 HS0.out
        · clear he hb HCM
          go_wp2_with fail
          go_ret2
          exact ⟨_, _, rfl, ⟨none, 0, rfl, Nat.le_refl _, fun h => absurd rfl h⟩, HE2.out, HB2.out⟩
      · exact absurd rfl h0
  · have hAF : alF Q L R = chk Q L := by unfold alF; rw [if_pos hc]
    have hAX : alX Q L R = [] := by unfold alX; rw [hAF, if_neg hc]
    rw [hAX, hAF]
    have HC0 := hid hc
    clear hAX hAF hpn S I hr hq sh hc
    go_enter Tryz.func12, Tryz.ntmps12
    go_wp2_with fail
    refine HIC.out.mono ?_
    rintro e w1 ⟨x, rfl, he, hb⟩
    have HB1 := hid hb
    have HE1 := hid he
    rcases he.kind with ⟨h0, -⟩ | ⟨-, T', ea, rfl⟩
    · exact absurd h0 HC0.out
    · clear he hb HIC
      go_wp2_with fail
      go_ret2
      exact ⟨_, _, rfl, ⟨none, 0, rfl, Nat.le_refl _, fun h => absurd rfl h⟩, HE1.out, HB1.out⟩
end Ve
end Go.Proofs.YtjndahjfodnllaaGreatDoor


namespace Go.Proofs.YtjndahjfodnllaaGreatDoor
open Go.RowKit
namespace Ve
theorem bxG {W : World} {g : Nat} {x y : Value} {T : TypeId} (h : W.heap[g]? = some (.cells #[x, y] T (0, 0))) : W.cell? ⟨g, 0, none⟩ = some x ∧ W.cell? ⟨g, 1, none⟩ = some y ∧ ∀ o, W.frozen? ⟨g, o, none⟩ = false :=
  ⟨by rw [Lib.cell_of_heap h]; rfl, by rw [Lib.cell_of_heap h]; rfl, fun o => Lib.frozen_of_heap h o⟩
theorem strs_no {a b : ByteArray} {k : Nat} {T : TypeId} {v : Value} (h : (#[Value.string a, .string b] : Array Value)[k]? = some (.iface T v)) : False := by
  match k, h with
  | 0, h => simp at h
  | 1, h => simp at h
  | k + 2, h => simp at h
theorem cell_set_neG {W : World} {b o g p : Nat} {x v : Value} (h : W.cell? ⟨b, o, none⟩ = some v) (hne : b ≠ g) : (W.setCell ⟨g, p, none⟩ x).cell? ⟨b, o, none⟩ = some v := by
  unfold World.cell? at h ⊢
  rw [Below.heap_setCell _ _ _ _ hne]
  exact h
theorem ErrAt.setS {W : World} {A : Nat → Addr} {y : Value} {c : Nat} {o : Option Nat} {g : Nat} {a' b' : ByteArray} {T : TypeId} (h : ErrAt W A y c o) (hg : W.heap[g]? = some (.cells #[.string a', .string b'] T (0, 0))) (a b : Value) : ErrAt ((W.setCell ⟨g, 0, none⟩ a).setCell ⟨g, 1, none⟩ b) A y c o := by
  cases o with
  | none => exact h
  | some i =>
    obtain ⟨h0, f, rfl, h1, h2⟩ := h
    have hne : f ≠ g := fun e => by
      subst e
      obtain ⟨a9, ha⟩ := errA_ne A h0
      rw [Lib.cell_of_heap hg, ha] at h2
      exact strs_no h2
    exact ⟨h0, f, rfl, cell_set_neG (cell_set_neG h1 hne) hne, cell_set_neG (cell_set_neG h2 hne) hne⟩
set_option maxRecDepth 100000 in
set_option maxHeartbeats 4000000 in
theorem pof_any (Q : List Raw) (L : List Ent) (R : List Bm) (p : ByteArray) (v rv : Value) (A : Nat → Addr) (m : Int) (w : World) (hL : L.length ≤ 200) (sh : ∀ e, e ∈ L → ShE e) (hq : shQ Q) (hR : R.length ≤ 1000) (h19 : (hvL Q L R p).length ≤ 19) (hp : p.size ≤ 1000) (S : Te w A m) (D : Ds w A) (I : Ixs w v Q L) (hr : MsAt w rv R) :
    Calls Tryz.prog 14 #[v, rv, .string p] w fun e w' => ∃ x, e = .returned (.tuple #[.agg #[.string (ofM Q L R p).1, .string (ofM Q L R p).2], x]) ∧ ErrAt w' A x (ofF Q L R p).1 (ofF Q L R p).2 ∧ Below w.heap.size w w' := by
  have HB0 := hid ((Below.refl w.heap.size w).alloc (Nat.le_refl _) (.cells #[.string ⟨#[]⟩, .string ⟨#[]⟩] 38))
  have HE0 := hid (heap_new w (.cells #[.string ⟨#[]⟩, .string ⟨#[]⟩] 38))
  have HIC := hid (fun W (h : Below w.heap.size w W) => icheck_any Q L v A m W (by omega) sh (S.below h) (I.below h))
  have HLK := hid (fun W (h : Below w.heap.size w W) => lkp_any p A m W (by omega) (S.below h) (D.below h))
  have HCM := hid (fun W (h : Below w.heap.size w W) => cmods_any Q R v rv A m W (by rw [I.ln]; omega) (by omega) (S.below h) (I.es.below h) (hr.below h))
  have HHV := hid (fun (hs : (slF Q R).1 = 0) W (h : Below w.heap.size w W) => hav_any Q L R p v rv W (by omega) sh hR (fun x hx => by
    obtain ⟨i, hi, rfl⟩ := List.getElem_of_mem hx
    obtain ⟨k, hk⟩ := slF_all hs i hi
    obtain ⟨hk2, _, h3, _⟩ := pk_is I hk
    refine ⟨?_, k, hk⟩
    rw [← h3]
    have := (hq _ (List.getElem_mem hk2)).1
    omega) (I.below h) (hr.below h) h19)
  have HG4 := hid (fun W (h : Below w.heap.size w W) => cell_below h S.sen.g4)
  have hn4 : ¬ w.heap.size = 0 := by have := lt_of_cell S.sen.g4; simp at this; omega
  have hn5 : ¬ 0 = w.heap.size := fun h => hn4 h.symm
  have HPS := hid (fun (hc : (chk Q L).1 = 0) (hs : (slF Q R).1 = 0) x (hx : x ∈ hvL Q L R p) => show 0 < plen x from by
    have h1 := (hv_mem.1 hx).1
    obtain ⟨i, hi, rfl⟩ := List.getElem_of_mem h1
    obtain ⟨k, hk⟩ := slF_all hs i hi
    obtain ⟨hk2, _, h3, _⟩ := pk_is I hk
    have h4 := path_pos ((good_of I hc).path _ (List.getElem_mem hk2))
    rw [len_eq, h3] at h4
    exact h4)
  obtain ⟨a, c, hv1, -⟩ := id I.es
  subst hv1
  obtain ⟨ra, rc, hrv, -⟩ := id hr
  subst hrv
  clear S D I hr hq sh
  by_cases hc : (chk Q L).1 = 0
  · by_cases hl : likeE p.data.toList = 0
    · have hl2 : ¬ (pathErr p.data.toList ≠ 0 ∧ pathErr p.data.toList ≠ 4) := fun h => by
        unfold likeE at hl
        rw [if_neg h.2] at hl
        exact h.1 hl
      by_cases hs : (slF Q R).1 = 0
      · have hF : ofF Q L R p = if (bstN Q L p R R.length).1.size = 0 then (5, none) else (0, none) := by
          unfold ofF; rw [if_neg (by simp [hc]), if_neg hl2, if_neg (by simp [hs])]
        have HBN := hid (bstN_hv Q L p R)
        have HTP := hid (fun D (h : Falls plen (hvL Q L R p) D) => falls_top (z := ((⟨#[]⟩, ⟨#[]⟩) : Bm)) rfl (HPS.out hc hs) h)
        have HHV2 := hid (HHV.out hs)
        have HS0 := hid (show codeE (nonE Q R) R.length = 0 from hs)
        have HFF := hid hF
        have HMM := hid (show ofM Q L R p = if (ofF Q L R p).1 = 0 then bstN Q L p R R.length else (⟨#[]⟩, ⟨#[]⟩) from rfl)
        have HCC := hid hc
        have HLL := hid hl
        rw [HBN.out] at HFF HMM
        generalize (hvL Q L R p).foldl (topS plen) (⟨#[]⟩, ⟨#[]⟩) = bt at *
        generalize ofF Q L R p = F at *
        generalize ofM Q L R p = M at *
        clear hc hl hl2 hs hF HPS HHV
        go_enter Tryz.func14, Tryz.ntmps14
        go_wp2_with fail
        refine (HIC.out _ HB0.out).mono ?_
        rintro e w1 ⟨x, rfl, he, hb⟩
        rw [HCC.out] at he
        have HB1 := hid (HB0.out.trans (hb.mono HB0.out.size))
        have HE1 := hid ((hb.block _ (lt_of_blk HE0.out)).trans HE0.out)
        rcases he.kind with ⟨-, rfl⟩ | ⟨h0, -⟩
        · clear he hb HIC HB0 HE0
          go_wp2_with fail
          have HLK1 := hid (HLK.out w1 HB1.out)
          rw [HLL.out, errA0] at HLK1
          refine HLK1.out.mono ?_
          rintro e w2 ⟨rfl, hb⟩
          have HB2 := hid (HB1.out.trans (hb.mono HB1.out.size))
          have HE2 := hid ((hb.block _ (lt_of_blk HE1.out)).trans HE1.out)
          clear hb HLK1 HLK HB1 HE1
          go_wp2_with fail
          refine (HCM.out w2 HB2.out).mono ?_
          rintro e w3 ⟨x, rfl, he, hb⟩
          rw [HS0.out] at he
          have HB3 := hid (HB2.out.trans (hb.mono HB2.out.size))
          have HE3 := hid ((hb.block _ (lt_of_blk HE2.out)).trans HE2.out)
          rcases he.kind with ⟨-, rfl⟩ | ⟨h0, -⟩
          · clear he hb HCM HB2 HE2
            go_wp2_with fail
            refine (HHV2.out w3 HB3.out).mono ?_
            rintro e w4 ⟨u, D, rfl, hfa, hM⟩
            have HB4 := hid (HB3.out.trans (hM.1.mono HB3.out.size))
            have HE4 := hid ((hM.1.block _ (lt_of_blk HE3.out)).trans HE3.out)
            have HMS := hid hM.ms
            obtain ⟨ua, uc, hus⟩ := hM.sl
            subst hus
            have HT := hid (HTP.out D hfa)
            clear hM hfa HHV2 HTP HB3 HE3
            rcases HT.out with ⟨rfl, hz⟩ | ⟨r, rfl, hz⟩
            · have hF2 : F = (5, none) := by rw [HFF.out, hz]; rfl
              have hM2 : M = (⟨#[]⟩, ⟨#[]⟩) := by rw [HMM.out, hF2]; rfl
              subst hF2 hM2
              have g4 := HG4.out _ HB4.out
              obtain ⟨r0, r1, rf⟩ := bxG HE4.out
              have rz := lt_of_blk HE4.out
              clear hz HFF HMM HT
              go_wp2_with fail
              go_region
              all_goals (try go_wp2)
              all_goals
                refine bodyPost_ret (v := .tuple #[.agg #[.string ⟨#[]⟩, .string ⟨#[]⟩], .iface 292 (.pointer (some (A 4)))]) (by simp [results, Tryz.results14, go_sem, r0, r1]) rfl ⟨_, rfl, rfl, ?_⟩
                exact ((HB4.out.setCell (Nat.le_refl _) _).setCell (Nat.le_refl _) _).drew
            · have hz' : ¬ bt.1.size = 0 := by have h : 0 < bt.1.size := hz; omega
              have hF2 : F = (0, none) := by rw [HFF.out, if_neg hz']
              have hM2 : M = bt := by rw [HMM.out, hF2]; rfl
              subst hF2 hM2
              obtain ⟨xb, xo, hxa, y0, y1⟩ := HMS.out.cells (show 0 < (M :: r).length by simp)
              subst hxa
              have hlz : ¬ ((M :: r).length : Int) = 0 := by rw [List.length_cons]; omega
              have hlp : (0 : Int) < ((M :: r).length : Int) := by rw [List.length_cons]; omega
              simp only [List.getElem_cons_zero, Nat.zero_mul, Nat.add_zero] at y0 y1
              obtain ⟨r0, r1, rf⟩ := bxG HE4.out
              have rz := lt_of_blk HE4.out
              obtain ⟨M1, M2⟩ := M
              simp only at y0 y1
              generalize ((M1, M2) :: r).length = dn at *
              have hb0 : ((dn : Int) == 0) = false := beq_eq_false_iff_ne.2 hlz
              clear hz hz' HFF HMM HT
              go_wp2_with fail
              refine bodyPost_ret (v := .tuple #[.agg #[.string M1, .string M2], .nilIface]) (by simp [results, Tryz.results14, go_sem, r0, r1]) rfl ⟨_, rfl, rfl, ?_⟩
              exact (HB4.out.setCell (Nat.le_refl _) _).setCell (Nat.le_refl _) _
          · exact absurd rfl h0
        · exact absurd rfl h0
      · have hF : ofF Q L R p = slF Q R := by
          unfold ofF; rw [if_neg (by simp [hc]), if_neg hl2, if_pos hs]
        have hM : ofM Q L R p = (⟨#[]⟩, ⟨#[]⟩) := by unfold ofM; rw [hF, if_neg hs]
        rw [hF, hM]
        have HS0 := hid hs
        have HCC := hid hc
        have HLL := hid hl
        clear hc hl hl2 hs hF hM HPS HHV
        go_enter Tryz.func14, Tryz.ntmps14
        go_wp2_with fail
        refine (HIC.out _ HB0.out).mono ?_
        rintro e w1 ⟨x, rfl, he, hb⟩
        rw [HCC.out] at he
        have HB1 := hid (HB0.out.trans (hb.mono HB0.out.size))
        have HE1 := hid ((hb.block _ (lt_of_blk HE0.out)).trans HE0.out)
        rcases he.kind with ⟨-, rfl⟩ | ⟨h0, -⟩
        · clear he hb HIC HB0 HE0
          go_wp2_with fail
          have HLK1 := hid (HLK.out w1 HB1.out)
          rw [HLL.out, errA0] at HLK1
          refine HLK1.out.mono ?_
          rintro e w2 ⟨rfl, hb⟩
          have HB2 := hid (HB1.out.trans (hb.mono HB1.out.size))
          have HE2 := hid ((hb.block _ (lt_of_blk HE1.out)).trans HE1.out)
          clear hb HLK1 HLK HB1 HE1
          go_wp2_with fail
          refine (HCM.out w2 HB2.out).mono ?_
          rintro e w3 ⟨x, rfl, he, hb⟩
          have HB3 := hid (HB2.out.trans (hb.mono HB2.out.size))
          have HE3 := hid ((hb.block _ (lt_of_blk HE2.out)).trans HE2.out)
          have HEE := hid (show ErrAt w3 A x (slF Q R).1 (slF Q R).2 from he)
          rcases he.kind with ⟨h0, -⟩ | ⟨-, T', ea, rfl⟩
          · exact absurd h0 HS0.out
          · obtain ⟨r0, r1, rf⟩ := bxG HE3.out
            have rz := lt_of_blk HE3.out
            clear he hb
            go_wp2_with fail
            refine bodyPost_ret (v := .tuple #[.agg #[.string ⟨#[]⟩, .string ⟨#[]⟩], .iface T' (.pointer (some ea))]) (by simp [results, Tryz.results14, go_sem, r0, r1]) rfl ⟨_, rfl, HEE.out.setS HE3.out _ _, ?_⟩
            exact (HB3.out.setCell (Nat.le_refl _) _).setCell (Nat.le_refl _) _
        · exact absurd rfl h0
    · have hl2 : pathErr p.data.toList ≠ 0 ∧ pathErr p.data.toList ≠ 4 := by
        unfold likeE at hl
        split at hl
        · exact absurd rfl hl
        · next h => exact ⟨hl, h⟩
      have hle : likeE p.data.toList = pathErr p.data.toList := by unfold likeE; rw [if_neg hl2.2]
      have hF : ofF Q L R p = (pathErr p.data.toList, none) := by
        unfold ofF; rw [if_neg (by simp [hc]), if_pos hl2]
      have hM : ofM Q L R p = (⟨#[]⟩, ⟨#[]⟩) := by unfold ofM; rw [hF, if_neg hl2.1]
      rw [hF, hM]
      rw [hle] at HLK
      have HCC := hid hc
      have HLL := hid hl2.1
      obtain ⟨a9, ha9⟩ := errA_ne A hl2.1
      have HA9 := hid ha9
      rw [ha9] at HLK
      clear hc hl hl2 hF hM HPS HHV ha9 hle
      go_enter Tryz.func14, Tryz.ntmps14
      go_wp2_with fail
      refine (HIC.out _ HB0.out).mono ?_
      rintro e w1 ⟨x, rfl, he, hb⟩
      rw [HCC.out] at he
      have HB1 := hid (HB0.out.trans (hb.mono HB0.out.size))
      have HE1 := hid ((hb.block _ (lt_of_blk HE0.out)).trans HE0.out)
      rcases he.kind with ⟨-, rfl⟩ | ⟨h0, -⟩
      · clear he hb HIC HB0 HE0
        go_wp2_with fail
        refine (HLK.out w1 HB1.out).mono ?_
        rintro e w2 ⟨rfl, hb⟩
        have HB2 := hid (HB1.out.trans (hb.mono HB1.out.size))
        have HE2 := hid ((hb.block _ (lt_of_blk HE1.out)).trans HE1.out)
        obtain ⟨r0, r1, rf⟩ := bxG HE2.out
        have rz := lt_of_blk HE2.out
        clear hb HLK HB1 HE1
        go_wp2_with fail
        refine bodyPost_ret (v := .tuple #[.agg #[.string ⟨#[]⟩, .string ⟨#[]⟩], .iface 292 (.pointer (some a9))]) (by simp [results, Tryz.results14, go_sem, r0, r1]) rfl ⟨_, rfl, HA9.out.symm, ?_⟩
        exact (HB2.out.setCell (Nat.le_refl _) _).setCell (Nat.le_refl _) _
      · exact absurd rfl h0
  · have hF : ofF Q L R p = chk Q L := by unfold ofF; rw [if_pos hc]
    have hM : ofM Q L R p = (⟨#[]⟩, ⟨#[]⟩) := by unfold ofM; rw [hF, if_neg hc]
    rw [hF, hM]
    have HCC := hid hc
    clear hc hF hM HPS HHV
    go_enter Tryz.func14, Tryz.ntmps14
    go_wp2_with fail
    refine (HIC.out _ HB0.out).mono ?_
    rintro e w1 ⟨x, rfl, he, hb⟩
    have HB1 := hid (HB0.out.trans (hb.mono HB0.out.size))
    have HE1 := hid ((hb.block _ (lt_of_blk HE0.out)).trans HE0.out)
    have HEE := hid he
    rcases he.kind with ⟨h0, -⟩ | ⟨-, T', ea, rfl⟩
    · exact absurd h0 HCC.out
    · obtain ⟨r0, r1, rf⟩ := bxG HE1.out
      have rz := lt_of_blk HE1.out
      clear he hb
      go_wp2_with fail
      refine bodyPost_ret (v := .tuple #[.agg #[.string ⟨#[]⟩, .string ⟨#[]⟩], .iface T' (.pointer (some ea))]) (by simp [results, Tryz.results14, go_sem, r0, r1]) rfl ⟨_, rfl, HEE.out.setS HE1.out _ _, ?_⟩
      exact (HB1.out.setCell (Nat.le_refl _) _).setCell (Nat.le_refl _) _
end Ve
end Go.Proofs.YtjndahjfodnllaaGreatDoor


namespace Go.Proofs.YtjndahjfodnllaaGreatDoor
open Go.RowKit
namespace Ve
theorem ph_len (Q : List Raw) : (phX Q).length ≤ Q.length := by
  unfold phX
  have := fold_len (Z := pathL Q) (X := [])
  rw [pathL_len] at this
  simpa using this
theorem lt_next {Q : List Raw} {X : List ByteArray} {k : Nat} (hk : k < X.length) : ltL Q (X.take (k + 1)) = ltL Q (X.take k) ++ [(X[k], latV Q X[k])] := by
  unfold ltL
  rw [List.take_succ_eq_append_getElem hk, List.map_append]; rfl
theorem ltL_len (Q : List Raw) (X : List ByteArray) : (ltL Q X).length = X.length := by unfold ltL; rw [List.length_map]
set_option maxRecDepth 100000 in
set_option maxHeartbeats 4000000 in
theorem lts_any (Q : List Raw) (v : Value) (A : Nat → Addr) (m : Int) (w : World) (hL : Q.length ≤ 1000) (hq : shQ Q) (S : Te w A m) (htab : Lib.TabIs Tryz.prog w powName .u64 Lib.pow10Tab) (hv : EsAt w v Q) :
    Calls Tryz.prog 45 #[v] w fun e w' => ∃ u, e = .returned u ∧ w'.ownsRow w.heap.size 38 2 u (ltL Q (phX Q)).length (flatM (ltL Q (phX Q))) ∧ Below w.heap.size w w' := by
  have HPA := hid (paths_any Q v w hL hv)
  rw [show tx (risB (bl (pathL Q))) = phX Q from tx_ris _] at HPA
  have HLA := hid (fun t W (h : Below w.heap.size w W) => show Calls Tryz.prog 23 #[v, .string t] W fun e w' => e = .returned (.string (latV Q t)) ∧ Below W.heap.size W w' from
    (latest_any Q t v (A 0) (A 1) m W hL hq (S.below h).vs (tab_below htab h) (hv.below h)).mono fun e w' ⟨X, h1, h2, h3⟩ => ⟨by rw [h1, latV_of h2], h3⟩)
  have HNX := hid (fun k (hk : k < (phX Q).length) => lt_next (Q := Q) hk)
  have HLL := hid (fun k => show (ltL Q ((phX Q).take k)).length ≤ 1000 by rw [ltL_len, List.length_take]; have := ph_len Q; omega)
  have hpl : (phX Q).length ≤ 1000 := Nat.le_trans (ph_len Q) hL
  obtain ⟨a, c, hv1, -⟩ := id hv
  subst hv1
  obtain ⟨i0, hi0, hz0, hz1, hz2⟩ := info_parts infoMod
  clear S htab hv hq
  generalize phX Q = X at *
  go_enter Tryz.func45, Tryz.ntmps45
  go_wp2_with fail
  refine HPA.out.mono ?_
  rintro e w1 ⟨u, rfl, hu, hb⟩
  have HB1 := hid hb
  have HX1 := hid (own_tx hu)
  obtain ⟨ua, uc, hus⟩ := own_slN hu
  subst hus
  clear hu hb HPA
  go_wp2_with fail
  go_loopw [3, 9] (fun ov iv wr => ∃ i : Nat, i ≤ X.length ∧ iv = .int .i64 i ∧ Hid (wr.ownsRow w1.heap.size 38 2 ov (ltL Q (X.take i)).length (flatM (ltL Q (X.take i)))) ∧ Hid (Below w1.heap.size w1 wr)) (fun _ iv _ => X.length - (intOf iv).toNat)
  case atStart => exact ⟨0, Nat.zero_le _, rfl, hid (World.ownsRow_nil _ _ _ _), hid (Below.refl _ _)⟩
  case round =>
    obtain ⟨i, hi, rfl, HOW, HBr⟩ := hrel
    by_cases hlt : i < X.length
    · have hiI := ix_lt hlt
      have hii := ix_pos i
      have HLI := hid hlt
      obtain ⟨xb, xo, hxa, y9⟩ := tx_cellK HX1.out hlt
      subst hxa
      have y0 := cell_below HBr.out y9
      have HN := hid (HNX.out i hlt)
      have HLN := hid (HLL.out i)
      have HLT := hid (HLA.out X[i])
      generalize X[i] = x at *
      obtain ⟨SX, hSX⟩ : ∃ SX, ltL Q (X.take i) = SX := ⟨_, rfl⟩
      rw [hSX] at HOW HN HLN
      generalize latV Q x = lv at *
      clear hSX hlt y9
      go_wp2_with fail
      refine (HLT.out _ (HB1.out.trans (HBr.out.mono HB1.out.size))).mono ?_
      rintro e w2 ⟨rfl, hb⟩
      have HB2 := hid (HBr.out.trans (hb.mono HBr.out.size))
      have HO2 := hid (owns_below HOW.out hb)
      have hsx := HLN.out
      clear hb y0 HOW HLT
      go_wp2_with (at_builtin; refine wpList_append_own _ rfl _ _ 23 rfl w1.heap.size 38 i0 _ 2 32 Tryz.underlying23 hi0 hz0 hz1 hz2 rfl (by decide) _ _ _ rfl (HO2.out.alloc _) ⟨w2.heap.size, 0, none⟩ 1 1 [.string x, .string lv] rfl rfl ?c1 ?c2 ?c3 ?c4 ?c5 ?_)
      case c1 => exact World.news_of_block (cs := #[.string x, .string lv]) (heap_new _ _)
      case c2 => intro u hu; simp at hu; rcases hu with rfl | rfl <;> rfl
      case c3 => unfold maxLen; omega
      case c4 => omega
      case c5 => have := HB2.out.size; simp; omega
      intro v' w6 hown hgrow _
      have HR3 := hid (rel_app2 HB2.out.size HB2.out HO2.out (Below.refl _ _) hgrow)
      have HO4 := hid (show w6.ownsRow w1.heap.size 38 2 v' (SX ++ [(x, lv)]).length (flatM (SX ++ [(x, lv)])) by rw [List.length_append, flatM_app]; exact hown)
      clear hown hgrow
      go_wp2_with fail
      go_roundw
      case rel => exact ⟨i + 1, HLI.out, by first | exact nr_idx i | exact nx_idx HLI.out (by omega : X.length ≤ 1000000), by rw [HN.out]; exact HO4, HR3⟩
      case measure => first | exact nr_meas HLI.out | exact nx_meas HLI.out (by omega : X.length ≤ 1000000)
    · have hiI := ix_nlt hlt
      have HTR := hid (show X.take i = X from List.take_of_length_le (by omega))
      rw [HTR.out] at HOW
      clear hlt
      go_wp2_with fail
      go_ret
      exact ⟨_, rfl, own_baseN HOW.out HB1.out.size, HB1.out.trans (HBr.out.mono HB1.out.size)⟩
set_option maxRecDepth 100000 in
set_option maxHeartbeats 4000000 in
theorem pwho_any (Q : List Raw) (L : List Ent) (p : ByteArray) (v : Value) (A : Nat → Addr) (m : Int) (w : World) (hL : L.length ≤ 200) (sh : ∀ e, e ∈ L → ShE e) (hq : shQ Q) (S : Te w A m) (htab : Lib.TabIs Tryz.prog w powName .u64 Lib.pow10Tab) (I : Ixs w v Q L) :
    Calls Tryz.prog 20 #[v, .string p] w fun e w' => ∃ u x, e = .returned (.tuple #[u, x]) ∧ MsAt w' u (whX Q L p) ∧ ErrAt w' A x (chk Q L).1 (chk Q L).2 ∧ Below w.heap.size w w' := by
  have HIC := hid (icheck_any Q L v A m w (by omega) sh S I)
  obtain ⟨a, c, hv1, -⟩ := id I.es
  subst hv1
  by_cases hc : (chk Q L).1 = 0
  · have hqn : Q.length ≤ 1000 := by rw [I.ln]; omega
    have HLT := hid (fun W (h : Below w.heap.size w W) => lts_any Q _ A m W hqn hq (S.below h) (tab_below htab h) (I.es.below h))
    have hU : ∀ x, x ∈ ltL Q (phX Q) → x ∈ univ L := fun x hx => by
      obtain ⟨h1, h2⟩ := ltL_mem.1 hx
      have := lat_univ I hc h1
      rw [← h2] at this
      exact this
    have HHV := hid (fun u W (h : Below w.heap.size w W) (hm : MsAt W u (ltL Q (phX Q))) => hav_any Q L (ltL Q (phX Q)) p _ u W (by omega) sh (by rw [ltL_len]; have := ph_len Q; omega) (fun x hx => by
      obtain ⟨k, hk⟩ := (found_iff I x).1 (hU x hx)
      obtain ⟨hk2, _, h3, _⟩ := pk_is I hk
      refine ⟨?_, k, hk⟩
      rw [← h3]
      have := (hq _ (List.getElem_mem hk2)).1
      omega) (I.below h) hm (hv_few I hc hU ltL_nd p))
    have HWH := hid (fun D (h : Falls plen (hvL Q L (ltL Q (phX Q)) p) D) => who_hv I hc hq h)
    have HCC := hid hc
    clear S I hq sh hc htab hU
    generalize whX Q L p = WX at *
    generalize ltL Q (phX Q) = LX at *
    go_enter Tryz.func20, Tryz.ntmps20
    go_wp2_with fail
    refine HIC.out.mono ?_
    rintro e w1 ⟨x, rfl, he, hb⟩
    have HEE := hid he
    have HB1 := hid hb
    rcases he.kind with ⟨-, rfl⟩ | ⟨h0, -⟩
    · clear he hb HIC
      go_wp2_with fail
      refine (HLT.out w1 HB1.out).mono ?_
      rintro e w2 ⟨u, rfl, hu, hb⟩
      have HB2 := hid (HB1.out.trans (hb.mono HB1.out.size))
      have HEE2 := hid (HEE.out.below hb)
      have HH2 := hid (HHV.out u w2 HB2.out (own_ms hu))
      obtain ⟨ua, uc, hus⟩ := own_slN hu
      subst hus
      clear hu hb HLT HHV HB1 HEE
      go_wp2_with fail
      refine HH2.out.mono ?_
      rintro e w3 ⟨u, D, rfl, hfa, hM⟩
      have HB3 := hid (HB2.out.trans (hM.1.mono HB2.out.size))
      have HEE3 := hid (HEE2.out.below hM.1)
      have HM3 := hid hM.ms
      rw [HWH.out D hfa] at HM3
      obtain ⟨va, vc, hvs⟩ := hM.sl
      subst hvs
      clear hM hfa HH2
      go_wp2_with fail
      go_ret2
      exact ⟨_, _, rfl, HM3.out, HEE3.out, HB3.out⟩
    · exact absurd HCC.out h0
  · have hW : whX Q L p = [] := by unfold whX; rw [if_neg hc]
    rw [hW]
    have HCC := hid hc
    clear S I hq sh hc htab hW
    go_enter Tryz.func20, Tryz.ntmps20
    go_wp2_with fail
    refine HIC.out.mono ?_
    rintro e w1 ⟨x, rfl, he, hb⟩
    have HEE := hid he
    have HB1 := hid hb
    rcases he.kind with ⟨h0, -⟩ | ⟨-, T', ea, rfl⟩
    · exact absurd h0 HCC.out
    · clear he hb HIC
      go_wp2_with fail
      go_ret2
      exact ⟨_, _, rfl, ⟨none, 0, rfl, Nat.le_refl _, fun h => absurd rfl h⟩, HEE.out, HB1.out⟩
def DsT (w : World) : Prop := ∃ A m, Te w A m ∧ Ds w A
theorem ptr_one {a b : Addr} {T : TypeId} {x : Option Value} (h1 : x = some (.iface T (.pointer (some a)))) (h2 : x = some (.iface T (.pointer (some b)))) : a = b := by
  rw [h1] at h2
  injection h2 with h2
  injection h2 with _ h2
  injection h2 with h2
  injection h2
theorem ds_of {w : World} {A : Nat → Addr} {m : Int} (h : DsT w) (S : Te w A m) : Ds w A := by
  obtain ⟨B, n, S', D⟩ := h
  have e0 : B 0 = A 0 := ptr_one S'.sen.g0 S.sen.g0
  have e1 : B 1 = A 1 := ptr_one S'.sen.g1 S.sen.g1
  have e3 : B 3 = A 3 := ptr_one S'.sen.g3 S.sen.g3
  have b0 := D.b0
  have b1 := D.b1
  have b3 := D.b3
  have n0 := D.n0
  have n1 := D.n1
  rw [e0] at b0 n0
  rw [e1] at b1 n1
  rw [e3] at b3 n0 n1
  exact ⟨b0, b1, b3, n0, n1⟩
theorem ds_stay : StayK DsT := fun _ _ ⟨A, m, S, D⟩ hb => ⟨A, m, S.below hb, D.below hb⟩
def TabP (w : World) : Prop := Lib.TabIs Tryz.prog w powName .u64 Lib.pow10Tab ∧ DsT w
theorem keep_tabP : StayK TabP := fun W W' h hb => ⟨tab_below h.1 hb, ds_stay W W' h.2 hb⟩
theorem pof_c : OfC TabP := fun Q L R p v rv A m w hL sh hq hR h19 hp S hT I hr => pof_any Q L R p v rv A m w hL sh hq hR h19 hp S (ds_of hT.2 S) I hr
theorem pall_c : AllC TabP := fun Q L R v rv A m w hL sh hq hR S _ I hr => pall_any Q L R v rv A m w hL sh hq hR S I hr
theorem pwho_c : WhoC TabP := fun Q L p v A m w hL sh hq _ S hT I => pwho_any Q L p v A m w hL sh hq S hT.1 I
end Ve
end Go.Proofs.YtjndahjfodnllaaGreatDoor


namespace Go.Proofs.YtjndahjfodnllaaGreatDoor
open Go.RowKit Go.Maps
namespace Ve
end Ve
end Go.Proofs.YtjndahjfodnllaaGreatDoor


namespace Go.Proofs.YtjndahjfodnllaaGreatDoor
open Go.RowKit Go.Maps
namespace Ve
theorem bx2 {W : World} {g : Nat} {x y : Value} {T : TypeId} (h : W.heap[g]? = some (.cells #[x, y] T (0, 0))) : W.cell? ⟨g, 0, none⟩ = some x ∧ W.cell? ⟨g, 1, none⟩ = some y ∧ ∀ o, W.frozen? ⟨g, o, none⟩ = false :=
  ⟨by rw [Lib.cell_of_heap h]; rfl, by rw [Lib.cell_of_heap h]; rfl, fun o => Lib.frozen_of_heap h o⟩
end Ve
end Go.Proofs.YtjndahjfodnllaaGreatDoor


namespace Go.Proofs.YtjndahjfodnllaaGreatDoor
open Go.RowKit Go.Maps
namespace Ve
end Ve
end Go.Proofs.YtjndahjfodnllaaGreatDoor


namespace Go.Proofs.YtjndahjfodnllaaGreatDoor
open Go.RowKit Go.Maps
namespace Ve
end Ve
end Go.Proofs.YtjndahjfodnllaaGreatDoor


namespace Go.Proofs.YtjndahjfodnllaaGreatDoor
open Go.RowKit Go.Maps
namespace Ve
end Ve
end Go.Proofs.YtjndahjfodnllaaGreatDoor


namespace Go.Proofs.YtjndahjfodnllaaGreatDoor
open Go.RowKit Go.Maps
namespace Ve
end Ve
end Go.Proofs.YtjndahjfodnllaaGreatDoor


namespace Go.Proofs.YtjndahjfodnllaaGreatDoor
open Go.RowKit Go.Maps
namespace Ve
end Ve
end Go.Proofs.YtjndahjfodnllaaGreatDoor
