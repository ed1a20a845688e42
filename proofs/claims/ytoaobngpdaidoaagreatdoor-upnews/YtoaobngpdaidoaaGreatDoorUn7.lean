/-
  What index.Versions and index.Latest answer.
-/
import Derived.Test.YtoaobngpdaidoaaGreatDoorUn6
import Derived.Test.YtoaobngpdaidoaaGreatDoorUn2
import Derived.Test.YtoaobngpdaidoaaGreatDoorUn3
import Derived.Test.YtoaobngpdaidoaaGreatDoorUn5
import Derived.Deep.RegionHeldLaw
import Derived.Deep.AppendLies
import Derived.Deep.RegionHeld
import Derived.Deep.DeepCutAuto
import Derived.Test.YtoaobngpdaidoaaGreatDoorUn1
import Derived.Deep.SlicePairs
import Derived.Lib.SmallJoins
import Derived.SliceStrings
import Derived.ProofKit
import Derived.LaidMore
import Derived.Lay
import Derived.Stop.Joined
import Derived.HandedShaped
import Derived.LaidLaws
import Derived.Below
namespace Go.Proofs.YtoaobngpdaidoaaGreatDoor
open Go.RowKit
namespace Ve

/-- The entries of a path whose version is one. -/
def ofP (t : ByteArray) (L : List Raw) : List Raw := L.filter (isP t)
theorem ofP_len (t : ByteArray) (L : List Raw) : (ofP t L).length ≤ L.length := List.length_filter_le _ _
theorem bestR_sub {L : List Raw} {r : Raw} (h : r ∈ bestR L) : r ∈ L := by
  unfold bestR at h
  split at h
  · exact (List.mem_filter.1 (List.mem_filter.1 h).1).1
  · split at h
    · exact (List.mem_filter.1 h).1
    · exact h
theorem bestR_len (L : List Raw) : (bestR L).length ≤ L.length := by
  unfold bestR
  split
  · exact Nat.le_trans (List.length_filter_le _ _) (List.length_filter_le _ _)
  · split
    · exact List.length_filter_le _ _
    · exact Nat.le_refl _
/-- The last of a row of texts, or none. -/
def lastT (X : List ByteArray) : ByteArray := X.getLast?.getD ⟨#[]⟩
theorem lastT_nil : lastT [] = ⟨#[]⟩ := rfl
theorem lastT_get {X : List ByteArray} (h : 0 < X.length) : lastT X = X[X.length - 1] := by
  unfold lastT
  rw [List.getLast?_eq_getElem?, List.getElem?_eq_getElem (by omega)]; rfl
theorem own_max {W : World} {B n k : Nat} {e : TypeId} {v : Value} {xs : List Value} (h : W.ownsRow B e k v n xs) : n ≤ maxLen := by
  obtain ⟨_, ⟨hv, hn0⟩ | ⟨g, cap, cur, hv, hg, hblk, hcap, hcm, hcs, hct⟩⟩ := h
  · rw [hn0]; exact Nat.zero_le _
  · exact Nat.le_trans hcap hcm
set_option maxRecDepth 100000 in
set_option maxHeartbeats 4000000 in
/-- index.Latest. -/
theorem latest_any (L : List Raw) (t : ByteArray) (v : Value) (aT aB : Addr) (m : Int) (w : World) (hL : L.length ≤ 1000) (hz : ∀ r, r ∈ L → r.1.1.size ≤ 80 ∧ r.1.2.size ≤ 80) (S : Vs w aT aB m) (htab : Lib.TabIs Tryz.prog w powName .u64 Lib.pow10Tab) (hv : EsAt w v L) :
    Calls Tryz.prog 83 #[v, .string t] w fun e w' => ∃ X, e = .returned (.string (lastT X)) ∧ Kept (verL (bestR (ofP t L))) (verL (bestR (ofP t L))).length X ∧ Below w.heap.size w w' := by
  obtain ⟨a, c, rfl, _⟩ := id hv
  have hsh : shortR L := fun r hr => ⟨by have := (hz r hr).1; omega, by have := (hz r hr).2; omega⟩
  have HP := hid (ofPath_any L t _ aT aB m w (by omega) hsh S hv)
  have HSH := hid (hsh.filter (isP t))
  have HZ := hid hz
  have HS := hid S
  have HT := hid htab
  have hll := ofP_len t L
  have hlb := bestR_len (ofP t L)
  clear hv S htab hz hsh
  go_enter Tryz.func83, Tryz.ntmps83
  go_wp2_with fail
  refine HP.out.mono ?_
  rintro e w1 ⟨v1, rfl, he, hb⟩
  have HBE := hid (best_any (ofP t L) v1 aT aB m w1 (by omega) HSH.out (HS.out.below hb) he)
  have HB := hid hb
  obtain ⟨a1, c1, rfl, _⟩ := he
  clear hb
  go_wp2_with fail
  refine HBE.out.mono ?_
  rintro e w2 ⟨v2, rfl, he, hb⟩
  have HB2 := hid (HB.out.trans (hb.mono HB.out.size))
  have HV := hid (versions_any (bestR (ofP t L)) v2 aT aB m w2 (by omega) (fun r hr => (HZ.out r (List.mem_filter.1 (bestR_sub hr)).1).2) (HS.out.below HB2.out) (tab_below HT.out HB2.out) he)
  obtain ⟨a2, c2, rfl, _⟩ := he
  clear hb
  go_wp2_with fail
  refine HV.out.mono ?_
  rintro e w3 ⟨u, rfl, X, h1, h2, h3⟩
  obtain ⟨ua, uc, hu, _, hcell⟩ := own_tx h1
  subst hu
  have HR := hid (⟨h2, HB2.out.trans (h3.mono HB2.out.size)⟩ : _ ∧ Below w.heap.size w w3)
  have HCC := hid hcell
  have hmx := own_max h1
  clear h1 h2 h3 hcell
  by_cases hX : 0 < X.length
  · obtain ⟨b, o, rfl, hcc⟩ := HCC.out (by intro h; rw [h] at hX; simp at hX)
    have hlast := hcc (X.length - 1) (by omega)
    have HLT := hid (lastT_get hX)
    rw [← HLT.out] at hlast
    have hne : ((X.length : Int) == 0) = false := by rw [beq_eq_false_iff_ne]; omega
    have hx1 : (X.length : Int) - 1 = ((X.length - 1 : Nat) : Int) := by omega
    have hx2 : ((X.length - 1 : Nat) : Int) < (X.length : Int) := by omega
    have hw64 : wrap64 ((X.length - 1 : Nat) : Int) = ((X.length - 1 : Nat) : Int) := IntWalk.wrap64_in _ (by unfold maxLen at hmx; omega)
    have htn : ((X.length - 1 : Nat) : Int).toNat = X.length - 1 := Int.toNat_natCast _
    clear hcc
    go_wp2_with fail
    go_ret
    exact ⟨X, rfl, HR.out⟩
  · have hx0 : X = [] := List.eq_nil_of_length_eq_zero (by omega)
    subst hx0
    go_wp2_with fail
    go_ret
    exact ⟨[], rfl, HR.out⟩
end Ve
end Go.Proofs.YtoaobngpdaidoaaGreatDoor

/-
  An index that is right, plain: its modules are unlike; each path once; the versions of a path, counted; the latest one.
-/
namespace Go.Proofs.YtoaobngpdaidoaaGreatDoor
open Go.RowKit
namespace Ve

/-! Sorted and each once. -/
theorem cut_mem (d : Array (List UInt8)) (t : List UInt8) : ∀ m, t ∈ Lib.compactUpTo d m ↔ ∃ j, j < m ∧ d[j]! = t
  | 0 => by simp [Lib.compactUpTo]
  | m + 1 => by
    rw [Lib.compactUpTo_succ, List.mem_append, cut_mem d t m]
    constructor
    · rintro (⟨j, hj, e⟩ | h)
      · exact ⟨j, by omega, e⟩
      · split at h
        · exact ⟨m, by omega, (by simpa using h : t = d[m]!).symm⟩
        · simp at h
    · rintro ⟨j, hj, e⟩
      by_cases hjm : j < m
      · exact Or.inl ⟨j, hjm, e⟩
      · have : j = m := by omega
        subst this
        cases hk : Lib.keeps d j
        · left
          have : j ≠ 0 ∧ d[j]! = d[j - 1]! := by
            have h2 : decide (j = 0 ∨ d[j]! ≠ d[j - 1]!) = false := hk
            have h3 := of_decide_eq_false h2
            exact ⟨fun h => h3 (Or.inl h), by
              by_cases h4 : d[j]! = d[j - 1]!
              · exact h4
              · exact absurd (Or.inr h4) h3⟩
          exact ⟨j - 1, by omega, this.2 ▸ e⟩
        · right; simp [e]
theorem le_anti {a b : List UInt8} (h1 : a ≤ b) (h2 : b ≤ a) : a = b := List.le_antisymm h1 h2
theorem cut_nodup (d : Array (List UInt8)) (hs : ∀ i j, i < j → j < d.size → d[i]! ≤ d[j]!) : ∀ m, m ≤ d.size → (Lib.compactUpTo d m).Nodup
  | 0, _ => by simp [Lib.compactUpTo]
  | m + 1, hm => by
    rw [Lib.compactUpTo_succ, List.nodup_append]
    refine ⟨cut_nodup d hs m (by omega), by split <;> simp, ?_⟩
    intro a ha b hb hab
    subst hab
    split at hb
    · rename_i hk
      have hb : a = d[m]! := by simpa using hb
      obtain ⟨j, hj, e⟩ := (cut_mem d a m).1 ha
      have h2 : decide (m = 0 ∨ d[m]! ≠ d[m - 1]!) = true := hk
      rcases of_decide_eq_true h2 with h3 | h3
      · omega
      · apply h3
        by_cases hj1 : j = m - 1
        · rw [← hb, ← e, hj1]
        · have q1 := hs j (m - 1) (by omega) (by omega)
          have q2 := hs (m - 1) m (by omega) (by omega)
          rw [e] at q1
          rw [← hb] at q2 ⊢
          exact le_anti q1 q2
    · simp at hb
theorem srtB_mem {Z : List (List UInt8)} {t : List UInt8} : t ∈ srtB Z ↔ t ∈ Z := by unfold srtB; exact List.mem_mergeSort
theorem srtB_le (Z : List (List UInt8)) : (srtB Z).Pairwise fun x y => x ≤ y := by
  unfold srtB
  have := List.pairwise_mergeSort (le := fun x y : List UInt8 => decide (x ≤ y)) (fun a b c h1 h2 => decide_eq_true (List.le_trans (of_decide_eq_true h1) (of_decide_eq_true h2)))
    (fun a b => by
      rcases List.le_total a b with h | h
      · simp [h]
      · simp [h]) Z
  exact this.imp fun h => of_decide_eq_true h
theorem risB_mem {Z : List (List UInt8)} {t : List UInt8} : t ∈ risB Z ↔ t ∈ Z := by
  unfold risB Lib.compact
  rw [cut_mem, ← srtB_mem (Z := Z)]
  constructor
  · rintro ⟨j, hj, e⟩
    rw [← e, getElem!_pos _ j (by simpa using hj)]
    simp
  · intro h
    obtain ⟨j, hj, e⟩ := List.getElem_of_mem h
    exact ⟨j, hj, by rw [getElem!_pos _ j (by simpa using hj)]; simpa using e⟩
theorem risB_nodup (Z : List (List UInt8)) : (risB Z).Nodup := by
  unfold risB Lib.compact
  refine cut_nodup _ (fun i j hij hj => ?_) _ (by simp)
  have hj' : j < (srtB Z).length := by simpa using hj
  rw [getElem!_pos _ i (by simp; omega), getElem!_pos _ j (by simpa using hj')]
  simpa using List.pairwise_iff_getElem.1 (srtB_le Z) i j (by omega) hj' hij

theorem Good.ofP {Q : List Raw} (g : Good Q) (t : ByteArray) : ofP t Q = Q.filter fun r => decide (r.1.1 = t) := by
  unfold Ve.ofP
  refine List.filter_congr fun r hr => ?_
  unfold isP
  rw [decide_eq_true (g.ver r hr), Bool.and_true]
theorem Good.ofP_mem {Q : List Raw} (g : Good Q) {t : ByteArray} {r : Raw} : r ∈ Ve.ofP t Q ↔ r ∈ Q ∧ r.1.1 = t := by
  rw [g.ofP t, List.mem_filter, decide_eq_true_iff]

/-! The versions of a path, counted. -/
theorem nodup_len {α : Type} [DecidableEq α] : ∀ {a b : List α}, a.Nodup → b.Nodup → (∀ x, x ∈ a ↔ x ∈ b) → a.length = b.length
  | [], b, _, _, h => by
    cases b with
    | nil => rfl
    | cons y s => exact absurd ((h y).2 (by simp)) (by simp)
  | x :: a, b, ha, hb, h => by
    have hx : x ∈ b := (h x).1 (by simp)
    have hl := List.length_erase_of_mem hx
    obtain ⟨h1, h2⟩ := List.nodup_cons.1 ha
    have hne : 0 < b.length := List.length_pos_of_mem hx
    have := nodup_len h2 (hb.erase x) (fun z => by
      rw [hb.mem_erase_iff, ← h z, List.mem_cons]
      constructor
      · intro hz; exact ⟨fun e => h1 (e ▸ hz), Or.inr hz⟩
      · rintro ⟨e, h3 | h3⟩
        · exact absurd h3 e
        · exact h3)
    rw [List.length_cons, this, hl]; omega
theorem Good.pair {Q : List Raw} (g : Good Q) : Q.Pairwise fun r s => r.1 ≠ s.1 :=
  List.pairwise_iff_getElem.2 fun i j hi hj hij e => by have := g.one i j hi hj e; omega
theorem Good.verNodup {Q : List Raw} (g : Good Q) (t : ByteArray) : (bl (verL (Ve.ofP t Q))).Nodup := by
  have h1 : (Ve.ofP t Q).Pairwise fun r s => r.1 ≠ s.1 := List.Pairwise.sublist List.filter_sublist g.pair
  have h2 : (Ve.ofP t Q).Pairwise fun r s => r.1.2.data.toList ≠ s.1.2.data.toList := List.Pairwise.imp_of_mem (fun {r s} hr hs hne e => hne (Prod.ext (((g.ofP_mem.1 hr).2).trans ((g.ofP_mem.1 hs).2).symm) (str_ext e))) h1
  unfold bl verL
  rw [List.map_map]
  exact List.pairwise_map.2 h2
theorem kept_mem {L X : List ByteArray} (hK : Kept L L.length X) (hv : ∀ x, x ∈ L → verErr x.data.toList = 0) (t : List UInt8) : t ∈ bl X ↔ t ∈ bl L := by
  have := hK.2 t
  rw [List.take_length] at this
  rw [this]
  constructor
  · exact fun h => h.1
  · intro h
    refine ⟨h, ?_⟩
    obtain ⟨x, hx, rfl⟩ := List.mem_map.1 h
    exact hv x hx
theorem rises_nd {l : List (List UInt8)} (h : rises l) : l.Nodup := List.Pairwise.imp (fun {a b} h e => by subst e; exact ordV_irr h h) h
theorem verL_ok {Q R : List Raw} (g : Good Q) (hR : ∀ r, r ∈ R → r ∈ Q) : ∀ x, x ∈ verL R → verErr x.data.toList = 0 := fun x hx => by
  obtain ⟨r, hr, rfl⟩ := List.mem_map.1 hx
  exact g.ver r (hR r hr)
theorem ofP_sub {Q : List Raw} {t : ByteArray} : ∀ r, r ∈ ofP t Q → r ∈ Q := fun _ hr => (List.mem_filter.1 hr).1
theorem kept_len {Q : List Raw} (g : Good Q) {t : ByteArray} {X : List ByteArray} (hK : Kept (verL (ofP t Q)) (verL (ofP t Q)).length X) : X.length = (ofP t Q).length := by
  have := nodup_len (rises_nd hK.1) (g.verNodup t) (kept_mem hK (verL_ok g ofP_sub))
  rw [bl_len, bl_len, verL_len] at this; exact this
theorem kept_has {Q R : List Raw} (g : Good Q) (hR : ∀ r, r ∈ R → r ∈ Q) {X : List ByteArray} (hK : Kept (verL R) (verL R).length X) {x : ByteArray} (hx : x ∈ X) : ∃ r, r ∈ R ∧ r.1.2 = x := by
  have h1 : x.data.toList ∈ bl X := List.mem_map.2 ⟨x, hx, rfl⟩
  obtain ⟨y, hy, e⟩ := List.mem_map.1 ((kept_mem hK (verL_ok g hR) _).1 h1)
  obtain ⟨r, hr, rfl⟩ := List.mem_map.1 hy
  exact ⟨r, hr, str_ext e⟩
theorem kept_in {Q R : List Raw} (g : Good Q) (hR : ∀ r, r ∈ R → r ∈ Q) {X : List ByteArray} (hK : Kept (verL R) (verL R).length X) {r : Raw} (hr : r ∈ R) : r.1.2 ∈ X := by
  have h1 : r.1.2.data.toList ∈ bl (verL R) := List.mem_map.2 ⟨r.1.2, List.mem_map.2 ⟨r, hr, rfl⟩, rfl⟩
  obtain ⟨y, hy, e⟩ := List.mem_map.1 ((kept_mem hK (verL_ok g hR) _).2 h1)
  rw [← str_ext e]; exact hy
/-- The paths of an index, each once. -/
def pathsT (Q : List Raw) : List ByteArray := tx (risB (bl (pathL Q)))
theorem tx_mem {Z : List (List UInt8)} {x : ByteArray} : x ∈ tx Z ↔ x.data.toList ∈ Z := by
  constructor
  · intro h
    obtain ⟨t, ht, rfl⟩ := List.mem_map.1 h
    rw [show (ba' t).data.toList = t by simp [ba']]; exact ht
  · intro h
    exact List.mem_map.2 ⟨_, h, str_ext (by simp [ba'])⟩
theorem pathsT_mem {Q : List Raw} {t : ByteArray} : t ∈ pathsT Q ↔ ∃ r, r ∈ Q ∧ r.1.1 = t := by
  unfold pathsT
  rw [tx_mem, risB_mem]
  constructor
  · intro h
    obtain ⟨x, hx, e⟩ := List.mem_map.1 h
    obtain ⟨r, hr, rfl⟩ := List.mem_map.1 hx
    exact ⟨r, hr, str_ext e⟩
  · rintro ⟨r, hr, rfl⟩
    exact List.mem_map.2 ⟨_, List.mem_map.2 ⟨r, hr, rfl⟩, rfl⟩
theorem pathsT_nodup (Q : List Raw) : (pathsT Q).Nodup := by
  have h := risB_nodup (bl (pathL Q))
  rw [← bl_tx (risB (bl (pathL Q)))] at h
  exact List.Pairwise.imp (fun {a b} hne e => hne (by rw [e])) (List.pairwise_map.1 h)
theorem sum_add (f g : ByteArray → Nat) : ∀ T : List ByteArray, (T.map fun t => f t + g t).sum = (T.map f).sum + (T.map g).sum
  | [] => rfl
  | t :: T => by
    simp only [List.map_cons, List.sum_cons]
    rw [sum_add f g T]; omega
theorem sum_one {a : ByteArray} : ∀ {T : List ByteArray}, T.Nodup → a ∈ T → (T.map fun t => if a = t then 1 else 0).sum = 1
  | [], _, h => absurd h (by simp)
  | t :: T, hn, h => by
    obtain ⟨h1, h2⟩ := List.nodup_cons.1 hn
    simp only [List.map_cons, List.sum_cons]
    by_cases e : a = t
    · rw [if_pos e]
      have hz : ∀ T' : List ByteArray, a ∉ T' → (T'.map fun t => if a = t then 1 else 0).sum = 0 := fun T' => by
        induction T' with
        | nil => intro _; rfl
        | cons y s ih =>
          intro hy
          simp only [List.map_cons, List.sum_cons]
          rw [if_neg (fun e => hy (by rw [e]; simp)), ih (fun hh => hy (List.mem_cons_of_mem _ hh))]
      rw [hz T (by rw [e]; exact h1)]
    · rw [if_neg e, sum_one h2 (by
        rcases List.mem_cons.1 h with h3 | h3
        · exact absurd h3 e
        · exact h3)]
theorem sum_paths (T : List ByteArray) (hn : T.Nodup) : ∀ Q : List Raw, (∀ r, r ∈ Q → r.1.1 ∈ T) → (T.map fun t => (Q.filter fun r => decide (r.1.1 = t)).length).sum = Q.length
  | [], _ => by
    have hz : ∀ T' : List ByteArray, (T'.map fun t => (([] : List Raw).filter fun r => decide (r.1.1 = t)).length).sum = 0 := fun T' => by
      induction T' with
      | nil => rfl
      | cons y s ih => simp only [List.map_cons, List.sum_cons]; rw [ih]; rfl
    exact hz T
  | r :: Q, h => by
    have e : (fun t => ((r :: Q).filter fun r => decide (r.1.1 = t)).length) = fun t => (Q.filter fun r => decide (r.1.1 = t)).length + (if r.1.1 = t then 1 else 0) := by
      funext t
      rw [List.filter_cons]
      by_cases h1 : r.1.1 = t
      · rw [if_pos (by simp [h1]), if_pos h1]; rfl
      · rw [if_neg (by simp [h1]), if_neg h1]; rfl
    rw [e, sum_add, sum_paths T hn Q (fun s hs => h s (List.mem_cons_of_mem _ hs)), sum_one hn (h r (by simp))]; rfl
/-- All versions of the first paths. -/
def manyN (Q : List Raw) (k : Nat) : Nat := (((pathsT Q).take k).map fun t => (ofP t Q).length).sum
theorem manyN_next {Q : List Raw} {k : Nat} (hk : k < (pathsT Q).length) : manyN Q (k + 1) = manyN Q k + (ofP (pathsT Q)[k] Q).length := by
  unfold manyN
  rw [List.take_succ_eq_append_getElem hk, List.map_append, List.sum_append]; simp
theorem manyN_all {Q : List Raw} (g : Good Q) : manyN Q (pathsT Q).length = Q.length := by
  unfold manyN
  rw [List.take_length, ← sum_paths (pathsT Q) (pathsT_nodup Q) Q (fun r hr => pathsT_mem.2 ⟨r, hr, rfl⟩)]
  congr 1
  refine List.map_congr_left fun t _ => ?_
  rw [g.ofP t]
theorem manyN_le {Q : List Raw} (g : Good Q) (k : Nat) : manyN Q k ≤ Q.length := by
  rw [← manyN_all g]
  unfold manyN
  rw [List.take_length]
  conv => rhs; rw [← List.take_append_drop k (pathsT Q), List.map_append, List.sum_append]
  omega

/-! The latest. -/
theorem bestR_ne {L : List Raw} (h : L ≠ []) : bestR L ≠ [] := by
  unfold bestR
  split
  · rename_i h1; intro e; rw [e] at h1; simp at h1
  · split
    · rename_i h1; intro e; rw [e] at h1; simp at h1
    · exact h
/-- What is liked as well as one of the best is one of the best. -/
theorem best_liked {Q L : List Raw} (g : Good Q) (hL : ∀ r, r ∈ L → r ∈ Q) {r s : Raw} (hr : r ∈ bestR L) (hs : s ∈ L) (h1 : (!s.2.2.2 || r.2.2.2) = true)
    (h2 : (decide ((preOf s.1.2.data.toList).length = 0) || (decide (0 < (preOf r.1.2.data.toList).length) || r.2.2.2)) = true) : s ∈ bestR L := by
  have hv : verErr s.1.2.data.toList = 0 := g.ver s (hL s hs)
  unfold bestR at hr ⊢
  split at hr
  · rename_i hd
    rw [if_pos hd]
    obtain ⟨hr1, hr2⟩ := List.mem_filter.1 hr
    obtain ⟨hr3, hr4⟩ := List.mem_filter.1 hr1
    have hvr : verErr r.1.2.data.toList = 0 := g.ver r (hL r hr3)
    have hb : r.2.2.2 = false := by unfold isS at hr4; simpa using hr4
    have hp : ¬ 0 < (preOf r.1.2.data.toList).length := by
      unfold isD preB at hr2
      rw [decide_eq_true hvr, Bool.true_and] at hr2
      simpa using hr2
    rw [hb, Bool.or_false] at h1
    rw [hb, decide_eq_false hp, Bool.or_false, Bool.or_false] at h2
    refine List.mem_filter.2 ⟨List.mem_filter.2 ⟨hs, by unfold isS; exact h1⟩, ?_⟩
    unfold isD preB
    have := of_decide_eq_true h2
    rw [decide_eq_false (by omega : ¬ 0 < (preOf s.1.2.data.toList).length), Bool.and_false]; rfl
  · rename_i hd
    rw [if_neg hd]
    split at hr
    · rename_i hd2
      rw [if_pos hd2]
      have hb : r.2.2.2 = false := by have := (List.mem_filter.1 hr).2; unfold isS at this; simpa using this
      rw [hb, Bool.or_false] at h1
      exact List.mem_filter.2 ⟨hs, by unfold isS; exact h1⟩
    · rename_i hd2
      rw [if_neg hd2]; exact hs
/-- The last of what is kept: one of them, and none is greater. -/
theorem kept_last {Q R : List Raw} (g : Good Q) (hR : ∀ r, r ∈ R → r ∈ Q) (hne : R ≠ []) {X : List ByteArray} (hK : Kept (verL R) (verL R).length X) :
    (∃ r, r ∈ R ∧ r.1.2 = lastT X) ∧ ∀ s, s ∈ R → ¬ ordV (lastT X).data.toList s.1.2.data.toList < 0 := by
  have hX : 0 < X.length := by
    obtain ⟨r, hr⟩ := List.exists_mem_of_ne_nil R hne
    exact List.length_pos_of_mem (kept_in g hR hK hr)
  have hl := lastT_get hX
  refine ⟨?_, fun s hs h => ?_⟩
  · rw [hl]; exact kept_has g hR hK (List.getElem_mem _)
  · have hin := kept_in g hR hK hs
    obtain ⟨j, hj, e⟩ := List.getElem_of_mem hin
    have hr := hK.1
    unfold rises at hr
    have hbl : (bl X).length = X.length := bl_len X
    rw [hl, ← e] at h
    by_cases hjl : j = X.length - 1
    · subst hjl; exact ordV_irr h h
    · have h2 := List.pairwise_iff_getElem.1 hr j (X.length - 1) (by omega) (by omega) (by omega)
      have g1 : (bl X)[j]'(by omega) = X[j].data.toList := by simp [bl]
      have g2 : (bl X)[X.length - 1]'(by omega) = (X[X.length - 1]'(by omega)).data.toList := by simp [bl]
      rw [g1, g2] at h2
      exact ordV_irr h h2
/-- The latest of a path that there is: its entry; what is liked as well is not greater. -/
structure Top (Q : List Raw) (t top : ByteArray) (at_ : Nat) : Prop where
  lt : at_ < Q.length
  idx : idxOf (isM (t, top)) Q = (at_ : Int)
  ver : verErr top.data.toList = 0
  no : ∀ s, s ∈ ofP t Q → (!s.2.2.2 || (Q[at_]'lt).2.2.2) = true → (decide ((preOf s.1.2.data.toList).length = 0) || (decide (0 < (preOf top.data.toList).length) || (Q[at_]'lt).2.2.2)) = true → lessB top.data.toList s.1.2.data.toList = false
theorem top_of {Q : List Raw} (g : Good Q) {t : ByteArray} (ht : t ∈ pathsT Q) {X : List ByteArray} (hK : Kept (verL (bestR (ofP t Q))) (verL (bestR (ofP t Q))).length X) : ∃ at_, Top Q t (lastT X) at_ := by
  obtain ⟨r0, hr0, e0⟩ := pathsT_mem.1 ht
  have hne : ofP t Q ≠ [] := List.ne_nil_of_mem (g.ofP_mem.2 ⟨hr0, e0⟩)
  have hsub : ∀ r, r ∈ bestR (ofP t Q) → r ∈ Q := fun r hr => ofP_sub r (bestR_sub hr)
  obtain ⟨⟨r, hr, er⟩, hmax⟩ := kept_last g hsub (bestR_ne hne) hK
  have hrq := g.ofP_mem.1 (bestR_sub hr)
  obtain ⟨n, hn, hi, hq⟩ := g.find hrq.1
  have hm : r.1 = (t, lastT X) := Prod.ext hrq.2 er
  refine ⟨n, hn, by rw [← hm]; exact hi, by rw [← er]; exact g.ver r hrq.1, fun s hs h1 h2 => ?_⟩
  rw [hq] at h1 h2
  rw [← er] at h2
  have hsb := best_liked g ofP_sub hr hs h1 h2
  unfold lessB
  rw [decide_eq_false (hmax s hsb), Bool.and_false, Bool.and_false]
/-- A version of a path that there is. -/
structure One (Q : List Raw) (t v : ByteArray) (n : Nat) : Prop where
  lt : n < Q.length
  idx : idxOf (isM (t, v)) Q = (n : Int)
  ver : verErr v.data.toList = 0
  mem : Q[n]'lt ∈ ofP t Q
  same : (Q[n]'lt).1.2 = v
theorem one_of {Q : List Raw} (g : Good Q) {t v : ByteArray} {X : List ByteArray} (hK : Kept (verL (ofP t Q)) (verL (ofP t Q)).length X) (hv : v ∈ X) : ∃ n, One Q t v n := by
  obtain ⟨r, hr, e⟩ := kept_has g ofP_sub hK hv
  have hrq := g.ofP_mem.1 hr
  obtain ⟨n, hn, hi, hq⟩ := g.find hrq.1
  have hm : r.1 = (t, v) := Prod.ext hrq.2 e
  exact ⟨n, hn, by rw [← hm]; exact hi, by rw [← e]; exact g.ver r hrq.1, by rw [hq]; exact hr, by rw [hq]; exact e⟩
/-- Of a path that there is not there is none. -/
theorem none_of {Q : List Raw} (g : Good Q) {t : ByteArray} (ht : pathErr t.data.toList ≠ 0) {X : List ByteArray} (hK : Kept (verL (bestR (ofP t Q))) (verL (bestR (ofP t Q))).length X) : lastT X = ⟨#[]⟩ := by
  have h0 : ofP t Q = [] := by
    rw [List.eq_nil_iff_forall_not_mem]
    intro r hr
    have := g.ofP_mem.1 hr
    exact ht (by rw [← this.2]; exact g.path r this.1)
  have hb : bestR (ofP t Q) = [] := by rw [h0]; rfl
  cases X with
  | nil => rfl
  | cons x s =>
    obtain ⟨r, hr, _⟩ := kept_has g (R := bestR (ofP t Q)) (fun r hr => ofP_sub r (bestR_sub hr)) hK (x := x) (by simp)
    rw [hb] at hr; cases hr
end Ve
end Go.Proofs.YtoaobngpdaidoaaGreatDoor

/-
  Newer ones, plain: the latest of a path; built on until nothing changes.
-/
namespace Go.Proofs.YtoaobngpdaidoaaGreatDoor
open Go.RowKit Go.Maps
namespace Ve

theorem pw_ext {α : Type} {r : α → α → Prop} (irr : ∀ a, ¬ r a a) (asy : ∀ a b, r a b → ¬ r b a) : ∀ {E F : List α}, E.Pairwise r → F.Pairwise r → (∀ m, m ∈ E ↔ m ∈ F) → E = F
  | [], [], _, _, _ => rfl
  | [], f :: F, _, _, h => by have := (h f).2 (by simp); cases this
  | e :: E, [], _, _, h => by have := (h e).1 (by simp); cases this
  | e :: E, f :: F, hE, hF, h => by
    obtain ⟨hE1, hE2⟩ := List.pairwise_cons.1 hE
    obtain ⟨hF1, hF2⟩ := List.pairwise_cons.1 hF
    have hef : e = f := by
      rcases List.mem_cons.1 ((h e).1 (by simp)) with a | a
      · exact a
      · rcases List.mem_cons.1 ((h f).2 (by simp)) with b | b
        · exact b.symm
        · exact absurd (hE1 f b) (asy _ _ (hF1 e a))
    subst hef
    have : E = F := pw_ext irr asy hE2 hF2 fun m => by
      constructor
      · intro hm
        rcases List.mem_cons.1 ((h m).1 (List.mem_cons_of_mem _ hm)) with a | a
        · subst a; exact absurd (hE1 m hm) (irr _)
        · exact a
      · intro hm
        rcases List.mem_cons.1 ((h m).2 (List.mem_cons_of_mem _ hm)) with a | a
        · subst a; exact absurd (hF1 m hm) (irr _)
        · exact a
    rw [this]
theorem kept_one {L : List ByteArray} {n : Nat} {X Y : List ByteArray} (hX : Kept L n X) (hY : Kept L n Y) : X = Y := by
  have h : bl X = bl Y := pw_ext (r := fun s t => ordV s t < 0) (fun a h => ordV_irr h h) (fun a b h => ordV_irr h) hX.1 hY.1 fun t => by rw [hX.2, hY.2]
  exact (List.map_inj_right (fun x y e => str_ext e)).1 h
/-- What Latest is made of. -/
abbrev KeptT (Q : List Raw) (t : ByteArray) (X : List ByteArray) : Prop := Kept (verL (bestR (ofP t Q))) (verL (bestR (ofP t Q))).length X
open Classical in
/-- The latest of a path. -/
noncomputable def latV (Q : List Raw) (t : ByteArray) : ByteArray := if h : ∃ X, KeptT Q t X then lastT h.choose else ⟨#[]⟩
theorem latV_of {Q : List Raw} {t : ByteArray} {X : List ByteArray} (h : KeptT Q t X) : lastT X = latV Q t := by
  have he : ∃ X, KeptT Q t X := ⟨X, h⟩
  unfold latV
  rw [dif_pos he, kept_one h he.choose_spec]
/-- The latest of each path. -/
noncomputable def latL (Q : List Raw) (E : List Bm) : List Bm := E.map fun m => (m.1, latV Q m.1)
theorem latL_len (Q : List Raw) (E : List Bm) : (latL Q E).length = E.length := by simp [latL]
/-- Each latest one is there. -/
def LatIn (Q : List Raw) (L : List Ent) (E : List Bm) : Prop := ∀ m, m ∈ E → (m.1, latV Q m.1) ∈ univ L
theorem lat_in {w : World} {v : Value} {Q : List Raw} {L : List Ent} {t : ByteArray} {X : List ByteArray} (I : Ixs w v Q L) (hc : (chk Q L).1 = 0) (ht : ∃ m, m ∈ univ L ∧ m.1 = t) (hK : KeptT Q t X) : (t, latV Q t) ∈ univ L := by
  have g := good_of I hc
  obtain ⟨m, hm, e⟩ := ht
  rw [← univ_eq I] at hm
  obtain ⟨r0, hr0, rfl⟩ := List.mem_map.1 hm
  have hne : ofP t Q ≠ [] := List.ne_nil_of_mem (g.ofP_mem.2 ⟨hr0, e⟩)
  have hsub : ∀ r, r ∈ bestR (ofP t Q) → r ∈ Q := fun r hr => ofP_sub r (bestR_sub hr)
  obtain ⟨⟨r, hr, er⟩, -⟩ := kept_last g hsub (bestR_ne hne) hK
  have hrq := g.ofP_mem.1 (bestR_sub hr)
  rw [← univ_eq I, ← latV_of hK]
  exact List.mem_map.2 ⟨r, hrq.1, Prod.ext hrq.2 er⟩
/-- Built on once. -/
noncomputable def upF (Q : List Raw) (L : List Ent) (E : List Bm) : List Bm := bX Q L (E ++ latL Q E)
theorem latL_in {Q : List Raw} {L : List Ent} {E : List Bm} (h : LatIn Q L E) : ∀ m, m ∈ latL Q E → m ∈ univ L := fun m hm => by
  obtain ⟨x, hx, rfl⟩ := List.mem_map.1 hm
  exact h x hx
theorem rX_mem {w : World} {v : Value} {Q : List Raw} {L : List Ent} {roots : List Bm} (I : Ixs w v Q L) (h : (chkG Q L roots).1 = 0) {m : Bm} : m ∈ rX Q L roots ↔ Rch (reqQ Q L) roots m := by
  unfold rX
  rw [if_pos h, List.mem_filter]
  constructor
  · rintro ⟨_, h1⟩; simpa using h1
  · intro h1; exact ⟨rch_univ I h h1, by simpa using h1⟩
theorem bX_univ {Q : List Raw} {L : List Ent} {roots : List Bm} : ∀ m, m ∈ bX Q L roots → m ∈ univ L := fun m hm => (rX_in ((bX_jn Q L roots).sub m hm).1).2
theorem bX_over {w : World} {v : Value} {Q : List Raw} {L : List Ent} {roots A : List Bm} (I : Ixs w v Q L) (h : (chkG Q L roots).1 = 0) (hA : ∀ m, m ∈ A → Rch (reqQ Q L) roots m) : undB A (bX Q L roots) = true :=
  (bX_jn Q L roots).over fun m hm => ⟨(rX_mem I h).2 (hA m hm), univ_right (chkG_chk h) m (rch_univ I h (hA m hm))⟩
theorem bX_in {w : World} {v : Value} {Q : List Raw} {L : List Ent} {roots : List Bm} (I : Ixs w v Q L) (h : (chkG Q L roots).1 = 0) {m : Bm} (hm : m ∈ bX Q L roots) : Rch (reqQ Q L) roots m := (rX_mem I h).1 ((bX_jn Q L roots).sub m hm).1
/-- A selection of the index. -/
structure Sl (L : List Ent) (E : List Bm) : Prop where
  ri : rising E
  un : ∀ m, m ∈ E → m ∈ univ L
theorem bX_sl (Q : List Raw) (L : List Ent) (roots : List Bm) : Sl L (bX Q L roots) := ⟨(bX_jn Q L roots).ri, bX_univ⟩
theorem upG {w : World} {v : Value} {Q : List Raw} {L : List Ent} {E : List Bm} (I : Ixs w v Q L) (hc : (chk Q L).1 = 0) (hE : Sl L E) (hl : LatIn Q L E) : (chkG Q L (E ++ latL Q E)).1 = 0 :=
  chkG_in I hc fun m hm => by
    rcases List.mem_append.1 hm with h | h
    · exact hE.un m h
    · exact latL_in hl m h
theorem up_over {w : World} {v : Value} {Q : List Raw} {L : List Ent} {E : List Bm} (I : Ixs w v Q L) (hc : (chk Q L).1 = 0) (hE : Sl L E) (hl : LatIn Q L E) : undB E (upF Q L E) = true :=
  bX_over I (upG I hc hE hl) fun _ hm => .root (List.mem_append_left _ hm)
theorem up_lat {w : World} {v : Value} {Q : List Raw} {L : List Ent} {E : List Bm} (I : Ixs w v Q L) (hc : (chk Q L).1 = 0) (hE : Sl L E) (hl : LatIn Q L E) : undB (latL Q E) (upF Q L E) = true :=
  bX_over I (upG I hc hE hl) fun _ hm => .root (List.mem_append_right _ hm)
theorem hasV_trans {Q : List Raw} {L : List Ent} {E F : List Bm} (hc : (chk Q L).1 = 0) (hE : Sl L E) (hF : Sl L F) (hu : undB E F = true) {m : Bm} (hm : m ∈ univ L) (h : hasV E m = true) : hasV F m = true := by
  obtain ⟨x, h1, h2⟩ := hasV_iff.1 h
  obtain ⟨hx, hp⟩ := atP_mem h1
  have rt := univ_right hc
  exact hasV_up (fun y hy => rt y (hF.un y hy)) (rt m hm) (rt x (hE.un x hx)) hp ((less_le (rt x (hE.un x hx)) (rt m hm)).1 h2) (List.all_eq_true.1 hu x hx)
theorem undB_trans {Q : List Raw} {L : List Ent} {D E F : List Bm} (hc : (chk Q L).1 = 0) (hD : Sl L D) (hE : Sl L E) (hF : Sl L F) (h1 : undB D E = true) (h2 : undB E F = true) : undB D F = true := by
  unfold undB
  rw [List.all_eq_true]
  intro m hm
  exact hasV_trans hc hE hF h2 (hD.un m hm) (List.all_eq_true.1 h1 m hm)
theorem undB_refl {Q : List Raw} {L : List Ent} {E : List Bm} (hc : (chk Q L).1 = 0) (hE : Sl L E) : undB E E = true := by
  unfold undB
  rw [List.all_eq_true]
  intro m hm
  exact hasV_of hE.ri hm rfl (ordV_selfJ (univ_right hc m (hE.un m hm)))
/-- Over it, and not it: one more entry is had. -/
theorem over_more {Q : List Raw} {L : List Ent} {E F : List Bm} (hc : (chk Q L).1 = 0) (hE : Sl L E) (hF : Sl L F) (hu : undB E F = true) (hne : F ≠ E) : ∃ m, m ∈ univ L ∧ hasV F m = true ∧ hasV E m = false := by
  have rt := univ_right hc
  by_cases hs : ∀ m, m ∈ F → m ∈ E
  · refine absurd (rising_ext hF.ri hE.ri fun m => ⟨hs m, fun hm => ?_⟩) hne
    obtain ⟨x, h1, h2⟩ := hasV_iff.1 (List.all_eq_true.1 hu m hm)
    obtain ⟨hx, hp⟩ := atP_mem h1
    have := rising_same hE.ri (hs x hx) hm hp
    rw [← this]; exact hx
  · obtain ⟨m, hm⟩ := Classical.not_forall.1 hs
    obtain ⟨hm, hn⟩ : m ∈ F ∧ ¬ m ∈ E := by
      by_cases h : m ∈ F
      · exact ⟨h, fun h2 => hm fun _ => h2⟩
      · exact absurd (fun h2 => absurd h2 h) hm
    refine ⟨m, hF.un m hm, hasV_of hF.ri hm rfl (ordV_selfJ (rt m (hF.un m hm))), ?_⟩
    cases hb : hasV E m
    · rfl
    · obtain ⟨b, h1, h2⟩ := hasV_iff.1 hb
      obtain ⟨hbE, hbp⟩ := atP_mem h1
      obtain ⟨f, h3, h4⟩ := hasV_iff.1 (List.all_eq_true.1 hu b hbE)
      obtain ⟨hfF, hfp⟩ := atP_mem h3
      have : f = m := rising_same hF.ri hfF hm (hfp.trans hbp)
      subst this
      have r1 := rt b (hE.un b hbE)
      have r2 := rt f (hF.un f hm)
      have : b = f := ver_same r1 r2 hbp ((less_le r2 r1).1 h4) ((less_le r1 r2).1 h2)
      subst this
      exact absurd hbE hn
/-- How many entries a selection has, in no less a version. -/
def cntV (L : List Ent) (E : List Bm) : Nat := ((univ L).filter (hasV E)).length
theorem cntV_le (L : List Ent) (E : List Bm) : cntV L E ≤ L.length := by
  have := List.length_filter_le (hasV E) (univ L)
  rw [univ_len] at this
  exact this
theorem filter_lt {α : Type} {p q : α → Bool} : ∀ {l : List α}, (∀ x, x ∈ l → p x = true → q x = true) → (∃ x, x ∈ l ∧ q x = true ∧ p x = false) → (l.filter p).length < (l.filter q).length
  | [], _, ⟨x, hx, _⟩ => by cases hx
  | a :: l, h, ⟨x, hx, h1, h2⟩ => by
    have hl : ∀ x, x ∈ l → p x = true → q x = true := fun x hx => h x (List.mem_cons_of_mem _ hx)
    have hle : (l.filter p).length ≤ (l.filter q).length := by
      clear h hx h1 h2
      induction l with
      | nil => exact Nat.le_refl _
      | cons b l ih =>
        have ih := ih (fun x hx => hl x (List.mem_cons_of_mem _ hx))
        rw [List.filter_cons, List.filter_cons]
        cases hp : p b
        · cases hq : q b <;> simp <;> omega
        · rw [hl b (by simp) hp]; simpa using ih
    rw [List.filter_cons, List.filter_cons]
    rcases List.mem_cons.1 hx with rfl | hx
    · rw [h1, h2]; simp; omega
    · have ih := filter_lt hl ⟨x, hx, h1, h2⟩
      cases hp : p a
      · cases hq : q a <;> simp <;> omega
      · rw [h a (by simp) hp]; simpa using ih
theorem cntV_lt {Q : List Raw} {L : List Ent} {E F : List Bm} (hc : (chk Q L).1 = 0) (hE : Sl L E) (hF : Sl L F) (hu : undB E F = true) (hne : F ≠ E) : cntV L E < cntV L F := by
  obtain ⟨m, h1, h2, h3⟩ := over_more hc hE hF hu hne
  exact filter_lt (fun x hx h => hasV_trans hc hE hF hu hx h) ⟨m, h1, h2, h3⟩
/-- Built on so often. -/
noncomputable def upN (Q : List Raw) (L : List Ent) (E : List Bm) : Nat → List Bm
  | 0 => E
  | n + 1 => upF Q L (upN Q L E n)
theorem upN_app (Q : List Raw) (L : List Ent) (E : List Bm) (a : Nat) : ∀ b, upN Q L (upN Q L E a) b = upN Q L E (a + b)
  | 0 => rfl
  | b + 1 => by
    show upF Q L (upN Q L (upN Q L E a) b) = upF Q L (upN Q L E (a + b))
    rw [upN_app Q L E a b]
theorem upN_fix {Q : List Raw} {L : List Ent} {E : List Bm} (h : upF Q L E = E) : ∀ n, upN Q L E n = E
  | 0 => rfl
  | n + 1 => by show upF Q L (upN Q L E n) = E; rw [upN_fix h n, h]
/-- Where nothing changes. -/
structure Fix (Q : List Raw) (L : List Ent) (E0 E : List Bm) : Prop where
  n : ∃ n, E = upN Q L E0 n
  f : upF Q L E = E
theorem Fix.one {Q : List Raw} {L : List Ent} {E0 E F : List Bm} (hE : Fix Q L E0 E) (hF : Fix Q L E0 F) : E = F := by
  obtain ⟨a, ha⟩ := hE.n
  obtain ⟨b, hb⟩ := hF.n
  rcases Nat.le_total a b with h | h
  · obtain ⟨d, rfl⟩ := Nat.exists_eq_add_of_le h
    rw [hb, ← upN_app, ← ha, upN_fix hE.f]
  · obtain ⟨d, rfl⟩ := Nat.exists_eq_add_of_le h
    rw [ha, ← upN_app, ← hb, upN_fix hF.f]
theorem Fix.self {Q : List Raw} {L : List Ent} {E : List Bm} (h : upF Q L E = E) : Fix Q L E E := ⟨⟨0, rfl⟩, h⟩
/-- What was built on is built of itself. -/
theorem up_again {w : World} {v : Value} {Q : List Raw} {L : List Ent} {E : List Bm} (I : Ixs w v Q L) (hc : (chk Q L).1 = 0) (hE : Sl L E) (hl : LatIn Q L E) (h : upF Q L E = E) : bX Q L E = E := by
  have hg := upG I hc hE hl
  have hg2 := chkG_in I hc hE.un
  have j := bX_jn Q L (E ++ latL Q E)
  rw [show bX Q L (E ++ latL Q E) = E from h] at j
  have jE : Jn (rX Q L E) E := ⟨hE.ri, fun e he => ⟨(rX_mem I hg2).2 (.root he), univ_right hc e (hE.un e he)⟩, fun x hx hr => j.top x ((rX_mem I hg).2 (((rX_mem I hg2).1 hx).mono fun _ hm => List.mem_append_left _ hm)) hr⟩
  exact (bX_jn Q L E).one jE (fun _ _ => Iff.rfl)
/-- Of what was built on the latest is not greater. -/
theorem up_news {w : World} {v : Value} {Q : List Raw} {L : List Ent} {E : List Bm} (I : Ixs w v Q L) (hc : (chk Q L).1 = 0) (hE : Sl L E) (hl : LatIn Q L E) (h : upF Q L E = E) : ∀ m, m ∈ E → lessB (vb m) (latV Q m.1).data.toList = false := fun m hm => by
  have hu := up_lat I hc hE hl
  rw [h] at hu
  have h1 := List.all_eq_true.1 hu (m.1, latV Q m.1) (List.mem_map.2 ⟨m, hm, rfl⟩)
  rw [hasV_rising (m := (m.1, latV Q m.1)) hE.ri hm rfl] at h1
  have h2 : (!lessB (vb m) (latV Q m.1).data.toList) = true := h1
  simpa using h2
/-- All the way it is over what it began with. -/
theorem over_step {w : World} {v : Value} {Q : List Raw} {L : List Ent} {E0 E : List Bm} (I : Ixs w v Q L) (hc : (chk Q L).1 = 0) (h0 : Sl L E0) (hE : Sl L E) (hl : LatIn Q L E) (h : undB E0 E = true) : undB E0 (upF Q L E) = true :=
  undB_trans hc h0 hE (bX_sl _ _ _) h (up_over I hc hE hl)
end Ve
end Go.Proofs.YtoaobngpdaidoaaGreatDoor

/-
  What up.latest answers: of each module its path in the latest version.
-/
namespace Go.Proofs.YtoaobngpdaidoaaGreatDoor
open Go.RowKit Go.Maps
namespace Ve

theorem latL_next {Q : List Raw} {E : List Bm} {k : Nat} (h : k < E.length) : latL Q (E.take (k + 1)) = latL Q (E.take k) ++ [(E[k].1, latV Q E[k].1)] := by
  unfold latL
  rw [List.take_succ_eq_append_getElem h, List.map_append]; rfl
theorem keep_grow {W3 W4 : World} {o : Obj} {b : Nat} {row : Option Nat} {x : Value} (hg : (W3.alloc o).grownBy W4 row) (hb : b < W3.heap.size) (hne : some b ≠ row) (hc : W3.cell? ⟨b, 0, none⟩ = some x) : W4.cell? ⟨b, 0, none⟩ = some x ∧ Hid (b < W4.heap.size) := by
  have hl : b < (W3.alloc o).heap.size := by simp; omega
  have h1 := ((Below.refl W3.heap.size W3).alloc (Nat.le_refl _) o).block b hb
  have h2 := hg.block b hl hne
  refine ⟨?_, hid (Nat.lt_of_lt_of_le hl hg.size)⟩
  rw [World.cell?_of_block h2, World.cell?_of_block h1]; exact hc
/-- Each path's latest is made of something. -/
def LatK (Q : List Raw) (E : List Bm) : Prop := ∀ x, x ∈ E → ∃ X, KeptT Q x.1 X
set_option maxRecDepth 100000 in
set_option maxHeartbeats 4000000 in
theorem latest_row (Q : List Raw) (mods : List Bm) (v mv : Value) (A : Nat → Addr) (m : Int) (w : World) (hL : Q.length ≤ 1000) (hn : mods.length ≤ 1000) (hz : ∀ r, r ∈ Q → r.1.1.size ≤ 80 ∧ r.1.2.size ≤ 80) (S : Te w A m) (htab : Lib.TabIs Tryz.prog w powName .u64 Lib.pow10Tab) (hv : EsAt w v Q) (hm : MsAt w mv mods) :
    Calls Tryz.prog 54 #[v, mv] w fun e w' => ∃ u, e = .returned u ∧ w'.ownsRow w.heap.size 46 2 u (latL Q mods).length (flatM (latL Q mods)) ∧ LatK Q mods ∧ Below w.heap.size w w' := by
  have HLA := hid (fun t W (h : Below w.heap.size w W) => latest_any Q t v (A 0) (A 1) m W hL hz (S.below h).vs (tab_below htab h) (hv.below h))
  have HM := hid (fun W (h : Below w.heap.size w W) => hm.below h)
  have HNM := hid (show mods.length ≤ 1000000 by omega)
  have HN := hid hn
  obtain ⟨i0, hi0, hz0, hz1, hz2⟩ := info_parts infoMod
  obtain ⟨va, vc, hv1, -⟩ := id hv
  subst hv1
  obtain ⟨ma, mc, hm1, -⟩ := id hm
  subst hm1
  clear hv hm S htab hz hn
  go_enter Tryz.func54, Tryz.ntmps54
  go_wp2_with fail
  go_loopw [5, 10] (fun ov iv wr => ∃ i : Nat, i ≤ mods.length ∧ iv = .int .i64 i ∧ Hid (wr.ownsRow w.heap.size 46 2 ov (latL Q (mods.take i)).length (flatM (latL Q (mods.take i)))) ∧ Hid (∀ j (h : j < mods.length), j < i → ∃ X, KeptT Q mods[j].1 X) ∧ Hid (Below w.heap.size w wr)) (fun _ iv _ => mods.length - (intOf iv).toNat)
  case atStart => exact ⟨0, Nat.zero_le _, rfl, hid (World.ownsRow_nil _ _ _ _), hid (fun j _ hj => absurd hj (Nat.not_lt_zero _)), hid (Below.refl _ _)⟩
  case round =>
    obtain ⟨i, hi, rfl, HOW, HK, HBr⟩ := hrel
    by_cases hlt : i < mods.length
    · have hiI := ix_lt hlt
      have hii := ix_pos i
      have HLI := hid hlt
      obtain ⟨xb, xo, hxa, y0, y1⟩ := (HM.out _ HBr.out).cells hlt
      subst hxa
      have HST := hid (latL_next (Q := Q) hlt)
      have HSL := hid (show (latL Q (mods.take i)).length ≤ 1000 by rw [latL_len]; exact Nat.le_trans (List.length_take_le' i mods) HN.out)
      have HKN := hid (show (∃ X, KeptT Q mods[i].1 X) → ∀ j (h : j < mods.length), j < i + 1 → ∃ X, KeptT Q mods[j].1 X from fun h0 j h1 h2 => by
        rcases Nat.lt_or_ge j i with h | h
        · exact HK.out j h1 h
        · have : j = i := by omega
          subst this; exact h0)
      generalize mods[i] = x at *
      obtain ⟨p, q⟩ := x
      simp only at y0 y1 HST HKN
      obtain ⟨SX, hSX⟩ : ∃ SX, latL Q (mods.take i) = SX := ⟨_, rfl⟩
      rw [hSX] at HOW HST HSL
      clear hSX hlt
      have HAl := hid ((Below.refl wr.heap.size wr).alloc (Nat.le_refl _) (.cells #[.string p, .string q] 46))
      have HBa := hid (HBr.out.trans (HAl.out.mono HBr.out.size))
      have HM0 := hid (heap_new wr (.cells #[.string p, .string q] 46))
      have HOa := hid (HOW.out.alloc (.cells #[.string p, .string q] 46))
      have HNE := hid (show some wr.heap.size ≠ u5.ownBlock from fun h => Nat.lt_irrefl _ (own_lt HOW.out h.symm).1)
      go_wp2_with fail
      obtain ⟨wa, hwa⟩ : ∃ wa, wr.alloc (.cells #[.string p, .string q] 46) = wa := ⟨_, rfl⟩
      rw [hwa] at HAl HBa HM0 HOa ⊢
      have HSZ := hid (show wr.heap.size < wa.heap.size from lt_of_blk HM0.out)
      clear hwa
      obtain ⟨m0, m1, mf⟩ := box2J HM0.out
      have HW := hid (fun W' (hW : Below wa.heap.size wa W') => HBa.out.trans (hW.mono HBa.out.size))
      have HT := hid (fun W' (hW : Below wa.heap.size wa W') => (show (fun W' => W'.cell? ⟨wr.heap.size, 0, none⟩ = some (.string p) ∧ Hid (wr.heap.size < W'.heap.size)) W' from ⟨cell_below hW m0, hid (Nat.lt_of_lt_of_le HSZ.out hW.size)⟩))
      have HLP := hid (fun W (h : Below w.heap.size w W) => HLA.out p W h)
      go_region_held_law (fun W' => W'.cell? ⟨wr.heap.size, 0, none⟩ = some (.string p) ∧ Hid (wr.heap.size < W'.heap.size)) (first | exact keep_grow HR9.out (HT.out _ HRa.out).2.out HNE.out (HT.out _ HRa.out).1 | exact HT.out _ (HRa.out.alloc HRa.out.size _) | exact HT.out _ HRa.out | exact HT.out _ (below_drawn _ 1)) (first
        | (go_at_call 83; refine (HLP.out _ (HW.out _ (below_drawn _ 1))).mono ?_; rintro e w3 ⟨X, rfl, hK, hb⟩; have HRa := hid ((below_drawn wa 1).trans (hb.mono (Nat.le_refl _))); have HKX := hid hK; have HLV := hid (latV_of hK); clear hb hK)
        | (refine step_append_lies _ (by rfl) _ _ 23 (by rfl) w.heap.size 46 i0 _ 2 32 Tryz.underlying23 hi0 hz0 hz1 hz2 rfl (by decide) _ _ _ (by rfl) ((owns_below HOa.out HRa.out).alloc _) ⟨w3.heap.size, 0, none⟩ 1 1 [.string p, .string (lastT X)] (by rfl) rfl (World.news_of_block (heap_new _ _)) (by intro u hu; simp at hu; rcases hu with rfl | rfl <;> rfl) (by decide) (Nat.le_trans (Nat.add_le_add_right HSL.out 1) (by unfold maxLen; decide)) (by have := HSL.out; omega) (Nat.le_trans (HW.out _ HRa.out).size (by simp)) (w3.heap.size + 1) (by simp) ?_; intro g cap w4 hown hgrow hat hlt2; have HR9 := hid hgrow))
      all_goals
        have HB4 := hid (rel_app2 HBa.out.size HBa.out HOa.out HRa.out hgrow)
        have HO4 := hid (show w4.ownsRow w.heap.size 46 2 (.slice (some ⟨g, 0, none⟩) (SX.length + 1) cap) (SX ++ [(p, latV Q p)]).length (flatM (SX ++ [(p, latV Q p)])) by rw [← HLV.out, List.length_append, flatM_app]; exact hown)
        have HK4 := hid (HKN.out ⟨X, HKX.out⟩)
        clear hown hgrow hat hlt2 HR9 m0 m1 mf
        go_wp2_with fail
        go_roundw
        case rel => first | exact ⟨i + 1, HLI.out, nr_idx i, hid (by rw [HST.out]; exact HO4.out), HK4, HB4⟩ | exact ⟨i + 1, HLI.out, nx_idx HLI.out HNM.out, hid (by rw [HST.out]; exact HO4.out), HK4, HB4⟩
        case measure => first | exact nr_meas HLI.out | exact nx_meas HLI.out HNM.out
    · have hiI := ix_nlt hlt
      have hie : i = mods.length := Nat.le_antisymm hi (Nat.le_of_not_lt hlt)
      have HTA := hid (show mods.take i = mods from List.take_of_length_le (by omega))
      rw [HTA.out] at HOW
      have HKA := hid (show LatK Q mods from fun x hx => by
        obtain ⟨j, hj, rfl⟩ := List.getElem_of_mem hx
        exact HK.out j hj (by omega))
      clear hlt
      go_wp2_with fail
      go_ret
      exact ⟨_, rfl, HOW.out, HKA.out, HBr.out⟩
end Ve
end Go.Proofs.YtoaobngpdaidoaaGreatDoor

/-
  What up.One answers: built with one module more; what up.All answers: built on until nothing changes.
-/
namespace Go.Proofs.YtoaobngpdaidoaaGreatDoor
open Go.RowKit Go.Maps
namespace Ve

/-- A row of modules is one alone. -/
theorem ms_one {W : World} {v : Value} {E F : List Bm} (hE : MsAt W v E) (hF : MsAt W v F) : E = F := by
  obtain ⟨a, c, rfl, _, h1⟩ := hE
  obtain ⟨a', c', e, _, h2⟩ := hF
  injection e with e1 e2 e3
  subst e1
  refine List.ext_getElem e2 fun j hj hj' => ?_
  obtain ⟨b, o, rfl, k1⟩ := h1 (fun e => by rw [e] at hj; exact absurd hj (Nat.not_lt_zero _))
  obtain ⟨b', o', e4, k2⟩ := h2 (fun e => by rw [e] at hj'; exact absurd hj' (Nat.not_lt_zero _))
  injection e4 with e4
  injection e4 with e5 e6
  subst e5 e6
  have p1 := (k1 j hj).1
  have p2 := (k1 j hj).2
  rw [(k2 j hj').1] at p1
  rw [(k2 j hj').2] at p2
  injection p1 with p1
  injection p1 with p1
  injection p2 with p2
  injection p2 with p2
  exact Prod.ext p1.symm p2.symm
open Classical in
/-- The modules that a value holds. -/
noncomputable def rdM (W : World) (v : Value) : List Bm := if h : ∃ E, MsAt W v E then h.choose else []
theorem rdM_eq {W : World} {v : Value} {E : List Bm} (h : MsAt W v E) : rdM W v = E := by
  have he : ∃ E, MsAt W v E := ⟨E, h⟩
  unfold rdM
  rw [dif_pos he]
  exact ms_one he.choose_spec h
theorem ms_single {W : World} {b : Nat} {x : Bm} {fr : Nat × Nat} (h : W.heap[b]? = some (.cells #[.string x.1, .string x.2] 46 fr)) : MsAt W (.slice (some ⟨b, 0, none⟩) 1 1) [x] := by
  refine ⟨_, 1, rfl, Nat.le_refl _, fun _ => ⟨b, 0, rfl, fun j hj => ?_⟩⟩
  have : j = 0 := by simp at hj; exact hj
  subst this
  exact ⟨by rw [Lib.cell_of_heap h]; rfl, by rw [Lib.cell_of_heap h]; rfl⟩
theorem em_some (a : Addr) (n c : Nat) (D : List Bm) : Em (.slice (some a) n c) D := fun a' c' e _ => by
  injection e with e1 e2 e3
  subst e1 e3
  exact Or.inr ⟨a, rfl⟩
set_option maxRecDepth 100000 in
set_option maxHeartbeats 2000000 in
theorem one_bad (Q : List Raw) (L : List Ent) (roots : List Bm) (x : Bm) (v rv : Value) (A : Nat → Addr) (m : Int) (w : World) (hn : L.length ≤ 1000) (hrn : roots.length ≤ 400) (sh : ∀ e, e ∈ L → ShE e) (S : Te w A m) (I : Ixs w v Q L) (hr : MsAt w rv roots) (h0 : ¬ (chkG Q L roots).1 = 0) :
    Calls Tryz.prog 25 #[v, rv, .agg #[.string x.1, .string x.2]] w fun e w' => ∃ T a, e = .returned (.tuple #[.slice none 0 0, .iface T (.pointer (some a))]) ∧ ErrAt w' A (.iface T (.pointer (some a))) (chkG Q L roots).1 (chkG Q L roots).2 ∧ Below w.heap.size w w' := by
  obtain ⟨p, q⟩ := x
  have HB0 := hid ((Below.refl w.heap.size w).alloc (Nat.le_refl _) (.cells #[.string p, .string q] 46))
  have HBU := hid (build_bad Q L roots v rv A m _ hn (by omega) sh (S.below HB0.out) (I.below HB0.out) (hr.below HB0.out) h0)
  obtain ⟨a, c, hv, -⟩ := id I.es
  subst hv
  obtain ⟨ra, rc, hrv, -⟩ := id hr
  subst hrv
  clear S I hr sh h0
  go_enter Tryz.func25, Tryz.ntmps25
  go_wp2_with fail
  refine HBU.out.mono ?_
  rintro e w1 ⟨T, xa, rfl, he, hb⟩
  have HB1 := hid (HB0.out.trans (hb.mono HB0.out.size))
  have HE := hid he
  clear hb he HBU
  go_wp2_with fail
  go_ret2
  exact ⟨_, _, rfl, HE.out, HB1.out⟩
set_option maxRecDepth 100000 in
set_option maxHeartbeats 2000000 in
theorem one_not (Q : List Raw) (L : List Ent) (roots : List Bm) (x : Bm) (v rv : Value) (A : Nat → Addr) (m : Int) (w : World) (hn : L.length ≤ 1000) (hrn : roots.length ≤ 400) (sh : ∀ e, e ∈ L → ShE e) (S : Te w A m) (I : Ixs w v Q L) (hr : MsAt w rv roots) (h0 : (chkG Q L roots).1 = 0) (hx : ¬ x ∈ univ L) :
    Calls Tryz.prog 25 #[v, rv, .agg #[.string x.1, .string x.2]] w fun e w' => e = .returned (.tuple #[.slice none 0 0, errA A 5]) ∧ Below w.heap.size w w' := by
  obtain ⟨p, q⟩ := x
  have HB0 := hid ((Below.refl w.heap.size w).alloc (Nat.le_refl _) (.cells #[.string p, .string q] 46))
  have HM0 := hid (heap_new w (.cells #[.string p, .string q] 46))
  have HBU := hid (build_good Q L roots v rv A m _ hn (by omega) sh (S.below HB0.out) (I.below HB0.out) (hr.below HB0.out) h0)
  have HFI := hid (fun W (h : Below w.heap.size w W) => find_any Q (p, q) v W (by rw [I.ln]; omega) (I.below h).es)
  obtain ⟨k, hk, hkn⟩ : ∃ k, idxOf (isM (p, q)) Q = k ∧ k < 0 := by
    rcases idx_nat (isM (p, q)) Q with h1 | ⟨k, h1⟩
    · exact ⟨_, h1, by omega⟩
    · exact absurd ((found_iff I (p, q)).2 ⟨k, h1⟩) hx
  rw [hk] at HFI
  have HS := hid (fun W (h : Below w.heap.size w W) => S.below h)
  obtain ⟨a, c, hv, -⟩ := id I.es
  subst hv
  obtain ⟨ra, rc, hrv, -⟩ := id hr
  subst hrv
  clear S I hr sh h0 hx hk
  go_enter Tryz.func25, Tryz.ntmps25
  go_wp2_with fail
  refine HBU.out.mono ?_
  rintro e w1 ⟨u, E, rfl, -, hm⟩
  have HB1 := hid (HB0.out.trans (hm.1.mono HB0.out.size))
  have HM1 := hid ((hm.1.block _ (lt_of_blk HM0.out)).trans HM0.out)
  obtain ⟨ua, uc, hu⟩ := hm.sl
  subst hu
  obtain ⟨m0, m1, mf⟩ := box2J HM1.out
  clear hm HBU
  go_wp2_with fail
  refine (HFI.out _ HB1.out).mono ?_
  rintro e w2 ⟨rfl, hb⟩
  have HB2 := hid (HB1.out.trans (hb.mono HB1.out.size))
  have g4 := (HS.out _ HB2.out).sen.g4
  clear hb m0 m1 mf
  go_wp2_with fail
  go_quiet (fail)
  go_wp2_with fail
  go_ret2
  exact ⟨rfl, below_drawn_of HB2.out _⟩
set_option maxRecDepth 100000 in
set_option maxHeartbeats 4000000 in
theorem one_good (Q : List Raw) (L : List Ent) (roots : List Bm) (x : Bm) (v rv : Value) (A : Nat → Addr) (m : Int) (w : World) (hn : L.length ≤ 1000) (hrn : roots.length ≤ 400) (sh : ∀ e, e ∈ L → ShE e) (S : Te w A m) (I : Ixs w v Q L) (hr : MsAt w rv roots) (her : Em rv roots) (h0 : (chkG Q L roots).1 = 0) (hx : x ∈ univ L) :
    Calls Tryz.prog 25 #[v, rv, .agg #[.string x.1, .string x.2]] w fun e w' => ∃ a c, e = .returned (.tuple #[.slice a (bX Q L (roots ++ [x])).length c, .nilIface]) ∧ Mr w w' (.slice a (bX Q L (roots ++ [x])).length c) (bX Q L (roots ++ [x])) := by
  have hg : (chkG Q L (roots ++ [x])).1 = 0 := chkG_in I (chkG_chk h0) fun y hy => by
    rcases List.mem_append.1 hy with h | h
    · exact (rgt_of I h0).r y h
    · rw [List.mem_singleton.1 h]; exact hx
  obtain ⟨p, q⟩ := x
  have HB0 := hid ((Below.refl w.heap.size w).alloc (Nat.le_refl _) (.cells #[.string p, .string q] 46))
  have HM0 := hid (heap_new w (.cells #[.string p, .string q] 46))
  have HBU := hid (build_good Q L roots v rv A m _ hn (by omega) sh (S.below HB0.out) (I.below HB0.out) (hr.below HB0.out) h0)
  have HFI := hid (fun W (h : Below w.heap.size w W) => find_any Q (p, q) v W (by rw [I.ln]; omega) (I.below h).es)
  obtain ⟨k, hk⟩ := (found_iff I (p, q)).1 hx
  rw [hk] at HFI
  have hk0 : ¬ (k : Int) < 0 := by omega
  have HB2 := hid (fun W u (h : Below w.heap.size w W) (hu : MsAt W u (roots ++ [(p, q)])) => build_all Q L (roots ++ [(p, q)]) v u A m W hn (by simp; omega) sh (S.below h) (I.below h) hu)
  rw [rF_good hg] at HB2
  have HR := hid (fun W (h : Below w.heap.size w W) => hr.below h)
  have HER := hid her
  obtain ⟨a, c, hv, -⟩ := id I.es
  subst hv
  obtain ⟨ra, rc, hrv, -⟩ := id hr
  subst hrv
  clear S I hr sh h0 hx hk her hg
  go_enter Tryz.func25, Tryz.ntmps25
  go_wp2_with fail
  refine HBU.out.mono ?_
  rintro e w1 ⟨u, E, rfl, -, hm⟩
  have HB1 := hid (HB0.out.trans (hm.1.mono HB0.out.size))
  have HM1 := hid ((hm.1.block _ (lt_of_blk HM0.out)).trans HM0.out)
  obtain ⟨ua, uc, hu⟩ := hm.sl
  subst hu
  obtain ⟨m0, m1, mf⟩ := box2J HM1.out
  clear hm HBU
  go_wp2_with fail
  refine (HFI.out _ HB1.out).mono ?_
  rintro e w2 ⟨rfl, hb⟩
  have HBb := hid (HB1.out.trans (hb.mono HB1.out.size))
  have HM2 := hid ((hb.block _ (lt_of_blk HM1.out)).trans HM1.out)
  clear hb m0 m1 mf
  obtain ⟨m0, m1, mf⟩ := box2J HM2.out
  have HA3 := hid ((Below.refl w2.heap.size w2).alloc (Nat.le_refl _) (.cells #[.string p, .string q] 46))
  have HN3 := hid (heap_new w2 (.cells #[.string p, .string q] 46))
  have HA4 := hid (HA3.out.alloc HA3.out.size (.cells #[.slice ra roots.length rc, .slice (some ⟨w2.heap.size, 0, none⟩) 1 1] 23))
  have HN4 := hid (heap_old _ (.cells #[.slice ra roots.length rc, .slice (some ⟨w2.heap.size, 0, none⟩) 1 1] 23) HN3.out)
  have HL4 := hid (heap_new (w2.alloc (.cells #[.string p, .string q] 46)) (.cells #[.slice ra roots.length rc, .slice (some ⟨w2.heap.size, 0, none⟩) 1 1] 23))
  have hsz : (w2.alloc (.cells #[.string p, .string q] 46)).heap.size = w2.heap.size + 1 := by simp
  rw [hsz] at HL4
  go_wp2_with fail
  generalize (w2.alloc (.cells #[.string p, .string q] 46)).alloc (.cells #[.slice ra roots.length rc, .slice (some ⟨w2.heap.size, 0, none⟩) 1 1] 23) = w4 at *
  have HB4 := hid (HBb.out.trans (HA4.out.mono HBb.out.size))
  have HCT := hid (cat_any roots [(p, q)] (.slice ra roots.length rc) (.slice (some ⟨w2.heap.size, 0, none⟩) 1 1) (w2.heap.size + 1) w4 (by rw [Lib.cell_of_heap HL4.out]; rfl) (by rw [Lib.cell_of_heap HL4.out]; rfl) (HR.out _ HB4.out) (ms_single HN4.out) HER.out (em_some _ _ _ _) (by omega) (by simp))
  clear m0 m1 mf HA3 HA4 HN3 HN4 HL4 hsz HM2 HM1 HM0
  refine HCT.out.mono ?_
  rintro e w5 ⟨cu, rfl, ho, hb⟩
  have HB5 := hid (HB4.out.trans (hb.mono HB4.out.size))
  have HBE := hid (HB2.out w5 cu HB5.out (own_ms ho))
  obtain ⟨RX, hRX⟩ : ∃ RX, roots ++ [(p, q)] = RX := ⟨_, rfl⟩
  obtain ⟨BX, hBX⟩ : ∃ BX, bX Q L (roots ++ [(p, q)]) = BX := ⟨_, rfl⟩
  have HBX := hid hBX
  rw [hBX] at HBE
  rw [hRX] at ho
  obtain ⟨ca, cc, hcu⟩ := own_slN ho
  subst hcu
  clear ho hb HCT HB2 hRX hBX
  go_wp2_with fail
  refine HBE.out.mono ?_
  rintro e w6 ⟨xa, xc, y, rfl, hm, he⟩
  have he : y = .nilIface := he
  subst he
  have HMX := hid (hm.base HB5.out)
  clear hm HBE
  go_wp2_with fail
  go_ret2
  have h := HBX.out
  subst h
  exact ⟨_, _, rfl, HMX.out⟩
set_option maxRecDepth 100000 in
set_option maxHeartbeats 2000000 in
theorem all_bad (Q : List Raw) (L : List Ent) (roots : List Bm) (v rv : Value) (A : Nat → Addr) (m : Int) (w : World) (hn : L.length ≤ 1000) (hrn : roots.length ≤ 1000000) (sh : ∀ e, e ∈ L → ShE e) (S : Te w A m) (I : Ixs w v Q L) (hr : MsAt w rv roots) (h0 : ¬ (chkG Q L roots).1 = 0) :
    Calls Tryz.prog 23 #[v, rv] w fun e w' => ∃ T a, e = .returned (.tuple #[.slice none 0 0, .iface T (.pointer (some a))]) ∧ ErrAt w' A (.iface T (.pointer (some a))) (chkG Q L roots).1 (chkG Q L roots).2 ∧ Below w.heap.size w w' := by
  have HBU := hid (build_bad Q L roots v rv A m _ hn hrn sh S I hr h0)
  obtain ⟨a, c, hv, -⟩ := id I.es
  subst hv
  obtain ⟨ra, rc, hrv, -⟩ := id hr
  subst hrv
  clear S I hr sh h0
  go_enter Tryz.func23, Tryz.ntmps23
  go_wp2_with fail
  refine HBU.out.mono ?_
  rintro e w1 ⟨T, xa, rfl, he, hb⟩
  have HB1 := hid hb
  have HE := hid he
  clear hb he HBU
  go_wp2_with fail
  go_ret2
  exact ⟨_, _, rfl, HE.out, HB1.out⟩
/-- What up.All answers. -/
structure AllR (Q : List Raw) (L : List Ent) (roots E : List Bm) : Prop where
  fx : Fix Q L (bX Q L roots) E
  sl : Sl L E
  la : LatIn Q L E
  ov : undB (bX Q L roots) E = true
set_option maxRecDepth 100000 in
set_option maxHeartbeats 4000000 in
theorem all_good (Q : List Raw) (L : List Ent) (roots : List Bm) (v rv : Value) (A : Nat → Addr) (m : Int) (w : World) (hn : L.length ≤ 400) (hrn : roots.length ≤ 1000000) (hz : ∀ r, r ∈ Q → r.1.1.size ≤ 80 ∧ r.1.2.size ≤ 80) (sh : ∀ e, e ∈ L → ShE e) (S : Te w A m) (htab : Lib.TabIs Tryz.prog w powName .u64 Lib.pow10Tab) (I : Ixs w v Q L) (hr : MsAt w rv roots) (h0 : (chkG Q L roots).1 = 0) :
    Calls Tryz.prog 23 #[v, rv] w fun e w' => ∃ a c E, e = .returned (.tuple #[.slice a E.length c, .nilIface]) ∧ Mr w w' (.slice a E.length c) E ∧ AllR Q L roots E := by
  have HC := hid (chkG_chk h0)
  have HBU := hid (build_all Q L roots v rv A m w (by omega) hrn sh S I hr)
  rw [rF_good h0] at HBU
  have HI := hid (fun W (h : Below w.heap.size w W) => I.below h)
  have HLR := hid (fun E W u (h : Below w.heap.size w W) (hE : E.length ≤ L.length) (hu : MsAt W u E) => latest_row Q E v u A m W (by rw [I.ln]; omega) (by omega) hz (S.below h) (tab_below htab h) (I.below h).es hu)
  have HLI := hid (fun E (hE : Sl L E) (hK : LatK Q E) => show LatIn Q L E from fun x hx => by
    obtain ⟨X, hX⟩ := hK x hx
    exact lat_in I HC.out ⟨x, hE.un x hx, rfl⟩ hX)
  have HB2 := hid (fun E W u (hE : Sl L E) (hl : LatIn Q L E) (hEl : E.length ≤ L.length) (h : Below w.heap.size w W) (hu : MsAt W u (E ++ latL Q E)) => build_all Q L (E ++ latL Q E) v u A m W (by omega) (by rw [List.length_append, latL_len]; omega) sh (S.below h) (I.below h) hu)
  have HG2 := hid (fun E (hE : Sl L E) (hl : LatIn Q L E) => rF_good (upG I HC.out hE hl))
  have HOV := hid (fun E (hE : Sl L E) (hl : LatIn Q L E) => up_over I HC.out hE hl)
  have HLN := hid hn
  obtain ⟨a, c, hv, -⟩ := id I.es
  subst hv
  obtain ⟨ra, rc, hrv, -⟩ := id hr
  subst hrv
  have HB0 := hid (bX_sl Q L roots)
  have HBL := hid (show (bX Q L roots).length ≤ L.length from bX_len)
  have HUR := hid (undB_refl HC.out HB0.out)
  clear S I hr sh h0 htab hz
  go_enter Tryz.func23, Tryz.ntmps23
  go_wp2_with fail
  refine HBU.out.mono ?_
  rintro e w1 ⟨xa, xc, y, rfl, hm, he⟩
  have he : y = .nilIface := he
  subst he
  have HM1 := hid hm
  clear hm HBU
  go_wp2_with fail
  go_loopw [6] (fun bv wr => ∃ E, Hid (Mr w wr bv E) ∧ Hid (∃ n, E = upN Q L (bX Q L roots) n) ∧ Hid (Sl L E) ∧ Hid (E.length ≤ L.length) ∧ Hid (undB (bX Q L roots) E = true)) (fun bv wr => L.length - cntV L (rdM wr bv))
  case atStart => exact ⟨_, HM1, hid ⟨0, rfl⟩, HB0, HBL, HUR⟩
  case round =>
    obtain ⟨E, HM, HNN, HSL, HEL, HUN⟩ := hrel
    have HRD := hid (rdM_eq HM.out.ms)
    obtain ⟨ea, ec, hu6⟩ := HM.out.sl
    subst hu6
    have HLE := hid (HLR.out E wr _ HM.out.1 HEL.out HM.out.ms)
    go_wp2_with fail
    refine HLE.out.mono ?_
    rintro e w2 ⟨lu, rfl, ho, hK, hb⟩
    have HLA := hid (HLI.out E HSL.out hK)
    have HB2' := hid (HM.out.1.trans (hb.mono HM.out.1.size))
    have HML := hid (mr_own ho hb)
    have HME := hid (HM.out.below hb)
    obtain ⟨la, lc, hlu⟩ := HML.out.sl
    subst hlu
    clear ho hK hb HLE
    have HA3 := hid ((Below.refl w2.heap.size w2).alloc (Nat.le_refl _) (.cells #[.slice ea E.length ec, .slice la (latL Q E).length lc] 23))
    have HL3 := hid (heap_new w2 (.cells #[.slice ea E.length ec, .slice la (latL Q E).length lc] 23))
    go_wp2_with fail
    generalize w2.alloc (.cells #[.slice ea E.length ec, .slice la (latL Q E).length lc] 23) = w3 at *
    have HB3 := hid (HB2'.out.trans (HA3.out.mono HB2'.out.size))
    have HCT := hid (cat_any E (latL Q E) _ _ w2.heap.size w3 (by rw [Lib.cell_of_heap HL3.out]; rfl) (by rw [Lib.cell_of_heap HL3.out]; rfl) (HME.out.ms.below HA3.out) (HML.out.ms.below HA3.out) HME.out.em HML.out.em (by have := HEL.out; have := HLN.out; omega) (by rw [latL_len]; have := HEL.out; have := HLN.out; omega))
    have HME3 := hid (HME.out.below HA3.out)
    clear HA3 HL3 HML HME
    refine HCT.out.mono ?_
    rintro e w4 ⟨cu, rfl, ho, hb⟩
    have HB4 := hid (HB3.out.trans (hb.mono HB3.out.size))
    have HBE := hid (HB2.out E w4 cu HSL.out HLA.out HEL.out HB4.out (own_ms ho))
    rw [HG2.out E HSL.out HLA.out] at HBE
    have HME4 := hid (HME3.out.below hb)
    have HUF := hid (show bX Q L (E ++ latL Q E) = upF Q L E from rfl)
    rw [HUF.out] at HBE
    obtain ⟨EL, hEL⟩ : ∃ EL, E ++ latL Q E = EL := ⟨_, rfl⟩
    rw [hEL] at ho
    obtain ⟨ca, cc, hcu⟩ := own_slN ho
    subst hcu
    clear ho hb HCT HME3 hEL HUF
    go_wp2_with fail
    refine HBE.out.mono ?_
    rintro e w5 ⟨na, nc, y, rfl, hm, he⟩
    have he : y = .nilIface := he
    subst he
    have HMN := hid (hm.base HB4.out)
    have HME5 := hid (HME4.out.below hm.1)
    have HSF := hid (show Sl L (upF Q L E) from bX_sl _ _ _)
    have HFL := hid (show (upF Q L E).length ≤ L.length from bX_len)
    have HOE := hid (HOV.out E HSL.out HLA.out)
    have HEQ := hid (eqS_any (upF Q L E) E _ _ w5 (by have := HFL.out; have := HLN.out; omega) HMN.out.ms HME5.out.ms)
    clear hm HBE HME4
    by_cases hF : upF Q L E = E
    · rw [decide_eq_true hF] at HEQ
      have HAR := hid (show AllR Q L roots E from ⟨⟨HNN.out, hF⟩, HSL.out, HLA.out, HUN.out⟩)
      rw [hF] at HMN HEQ ⊢
      clear hF HSF HFL HOE
      go_wp2_with fail
      refine HEQ.out.mono ?_
      rintro e w6 ⟨rfl, hb⟩
      have HM6 := hid (HMN.out.below hb)
      clear hb
      go_wp2_with fail
      go_ret2
      exact ⟨_, _, E, rfl, HM6.out, HAR.out⟩
    · rw [decide_eq_false hF] at HEQ
      have HCN := hid (cntV_lt HC.out HSL.out HSF.out HOE.out hF)
      have HN2 := hid (show ∃ n, upF Q L E = upN Q L (bX Q L roots) n by
        obtain ⟨n, hn⟩ := HNN.out
        exact ⟨n + 1, by rw [hn]; rfl⟩)
      have HU2 := hid (undB_trans HC.out HB0.out HSL.out HSF.out HUN.out HOE.out)
      have HCE := hid (cntV_le L (upF Q L E))
      clear hF
      generalize upF Q L E = F at *
      go_wp2_with fail
      refine HEQ.out.mono ?_
      rintro e w6 ⟨rfl, hb⟩
      have HM6 := hid (HMN.out.below hb)
      clear hb
      go_wp2_with fail
      go_roundw
      case rel => exact ⟨F, HM6, HN2, HSF, HFL, HU2⟩
      case measure =>
        show L.length - cntV L (rdM w6 _) < L.length - cntV L (rdM wr _)
        rw [rdM_eq HM6.out.ms, HRD.out]
        have h1 := HCN.out
        have h2 := HCE.out
        omega
end Ve
end Go.Proofs.YtoaobngpdaidoaaGreatDoor

/-
  What up.News answers: of each path of a selection whose latest version is greater than its own: that.
-/
namespace Go.Proofs.YtoaobngpdaidoaaGreatDoor
open Go.RowKit Go.Maps
namespace Ve

/-- The news of modules. -/
noncomputable def newsL (Q : List Raw) (E : List Bm) : List Bm := (E.filter fun m => lessB (vb m) (latV Q m.1).data.toList).map fun m => (m.1, latV Q m.1)
theorem latL_get {Q : List Raw} {E : List Bm} {i : Nat} (h : i < (latL Q E).length) (h' : i < E.length) : (latL Q E)[i] = (E[i].1, latV Q E[i].1) := by simp [latL]
theorem newsL_next {Q : List Raw} {E : List Bm} {k : Nat} (h : k < E.length) : newsL Q (E.take (k + 1)) = newsL Q (E.take k) ++ (if lessB (vb E[k]) (latV Q E[k].1).data.toList then [(E[k].1, latV Q E[k].1)] else []) := by
  unfold newsL
  rw [List.take_succ_eq_append_getElem h, List.filter_append, List.map_append]
  congr 1
  cases hb : lessB (vb E[k]) (latV Q E[k].1).data.toList <;> simp [hb]
theorem newsL_len (Q : List Raw) (E : List Bm) : (newsL Q E).length ≤ E.length := by
  unfold newsL
  rw [List.length_map]
  exact List.length_filter_le _ _
theorem newsL_none {Q : List Raw} {E : List Bm} (h : ∀ m, m ∈ E → lessB (vb m) (latV Q m.1).data.toList = false) : newsL Q E = [] := by
  unfold newsL
  rw [List.filter_eq_nil_iff.2 (fun m hm => by rw [h m hm]; simp)]; rfl
theorem lat_sz {Q : List Raw} {t : ByteArray} {X : List ByteArray} (g : Good Q) (hz : ∀ r, r ∈ Q → r.1.1.size ≤ 80 ∧ r.1.2.size ≤ 80) (hK : KeptT Q t X) : (latV Q t).size ≤ 80 := by
  rw [← latV_of hK]
  cases hX : X with
  | nil => exact Nat.zero_le _
  | cons x s =>
    have hp : 0 < X.length := by rw [hX]; simp
    rw [← hX, lastT_get hp]
    obtain ⟨r, hr, e⟩ := kept_has g (R := bestR (ofP t Q)) (fun r hr => ofP_sub r (bestR_sub hr)) hK (x := X[X.length - 1]) (List.getElem_mem _)
    rw [← e]
    exact (hz r (ofP_sub r (bestR_sub hr))).2
set_option maxRecDepth 100000 in
set_option maxHeartbeats 2000000 in
theorem news_bad (Q : List Raw) (L : List Ent) (sel : List Bm) (v sv : Value) (A : Nat → Addr) (m : Int) (w : World) (hn : L.length ≤ 1000) (sh : ∀ e, e ∈ L → ShE e) (S : Te w A m) (I : Ixs w v Q L) (hs : MsAt w sv sel) (h0 : ¬ (chk Q L).1 = 0) :
    Calls Tryz.prog 24 #[v, sv] w fun e w' => ∃ T a, e = .returned (.tuple #[.slice none 0 0, .iface T (.pointer (some a))]) ∧ ErrAt w' A (.iface T (.pointer (some a))) (chk Q L).1 (chk Q L).2 ∧ Below w.heap.size w w' := by
  have HCK := hid (icheck_any Q L v A m w (by omega) sh S I)
  obtain ⟨a, c, hv, -⟩ := id I.es
  subst hv
  obtain ⟨sa, sc, hsv, -⟩ := id hs
  subst hsv
  clear S I hs sh
  go_enter Tryz.func24, Tryz.ntmps24
  go_wp2_with fail
  refine HCK.out.mono ?_
  rintro e w1 ⟨x, rfl, he, hb⟩
  have HB1 := hid hb
  have HE := hid he
  rcases he.kind with ⟨h, _⟩ | ⟨_, T, xa, rfl⟩
  · exact absurd h h0
  clear he hb HCK h0
  go_wp2_with fail
  go_ret2
  exact ⟨_, _, rfl, HE.out, HB1.out⟩
set_option maxRecDepth 100000 in
set_option maxHeartbeats 2000000 in
theorem news_ord (Q : List Raw) (L : List Ent) (sel : List Bm) (v sv : Value) (A : Nat → Addr) (m : Int) (w : World) (hn : L.length ≤ 1000) (hsn : sel.length ≤ 1000) (sh : ∀ e, e ∈ L → ShE e) (S : Te w A m) (I : Ixs w v Q L) (hs : MsAt w sv sel) (h0 : (chk Q L).1 = 0) (h1 : risB2 sel = false) :
    Calls Tryz.prog 24 #[v, sv] w fun e w' => e = .returned (.tuple #[.slice none 0 0, errA A 8]) ∧ Below w.heap.size w w' := by
  have HCK := hid (icheck_any Q L v A m w (by omega) sh S I)
  have HIS := hid (fun W (h : Below w.heap.size w W) => isSel_any sel sv W (hs.below h) (by omega))
  rw [h1] at HIS
  have HS := hid (fun W (h : Below w.heap.size w W) => S.below h)
  obtain ⟨a, c, hv, -⟩ := id I.es
  subst hv
  obtain ⟨sa, sc, hsv, -⟩ := id hs
  subst hsv
  clear S I hs sh h1
  go_enter Tryz.func24, Tryz.ntmps24
  go_wp2_with fail
  refine HCK.out.mono ?_
  rintro e w1 ⟨x, rfl, he, hb⟩
  have HB1 := hid hb
  rcases he.kind with ⟨_, rfl⟩ | ⟨h, _⟩
  · clear he hb HCK h0
    go_wp2_with fail
    refine (HIS.out _ HB1.out).mono ?_
    rintro e w2 ⟨rfl, hb⟩
    have HB2 := hid (HB1.out.trans (hb.mono HB1.out.size))
    have g7 := (HS.out _ HB2.out).sen.g7
    clear hb
    go_wp2_with fail
    go_quiet (fail)
    go_wp2_with fail
    go_ret2
    exact ⟨rfl, below_drawn_of HB2.out _⟩
  · exact absurd h0 h
set_option maxRecDepth 100000 in
set_option maxHeartbeats 4000000 in
theorem news_good (Q : List Raw) (L : List Ent) (sel : List Bm) (v sv : Value) (A : Nat → Addr) (m : Int) (w : World) (hn : L.length ≤ 1000) (hsn : sel.length ≤ 1000) (hz : ∀ r, r ∈ Q → r.1.1.size ≤ 80 ∧ r.1.2.size ≤ 80) (hsz : ∀ x, x ∈ sel → x.2.size < 999999) (sh : ∀ e, e ∈ L → ShE e) (S : Te w A m) (htab : Lib.TabIs Tryz.prog w powName .u64 Lib.pow10Tab) (I : Ixs w v Q L) (hs : MsAt w sv sel) (h0 : (chk Q L).1 = 0) (h1 : risB2 sel = true) :
    Calls Tryz.prog 24 #[v, sv] w fun e w' => ∃ u, e = .returned (.tuple #[u, .nilIface]) ∧ w'.ownsRow w.heap.size 46 2 u (newsL Q sel).length (flatM (newsL Q sel)) ∧ Below w.heap.size w w' := by
  have HCK := hid (icheck_any Q L v A m w (by omega) sh S I)
  have HIS := hid (fun W (h : Below w.heap.size w W) => isSel_any sel sv W (hs.below h) (by omega))
  rw [h1] at HIS
  have HLR := hid (fun W (h : Below w.heap.size w W) => latest_row Q sel v sv A m W (by rw [I.ln]; omega) hsn hz (S.below h) (tab_below htab h) (I.below h).es (hs.below h))
  have HLZ := hid (fun (hK : LatK Q sel) (x : Bm) (hx : x ∈ sel) => show (latV Q x.1).size < 999999 by
    obtain ⟨X, hX⟩ := hK x hx
    have := lat_sz (good_of I h0) hz hX
    omega)
  have HLS := hid (fun (s t : ByteArray) W (h : Below w.heap.size w W) (h1 : s.size < 999999) (h2 : t.size < 999999) => less_any s t (A 0) (A 1) m W h1 h2 (S.below h).vs)
  have HMS := hid (fun W (h : Below w.heap.size w W) => hs.below h)
  have HSZ := hid hsz
  have HSN := hid (show sel.length ≤ 1000000 by omega)
  have HSL := hid hsn
  obtain ⟨i0, hi0, hz0, hz1, hz2⟩ := info_parts infoMod
  obtain ⟨a, c, hv, -⟩ := id I.es
  subst hv
  obtain ⟨sa, sc, hsv, -⟩ := id hs
  subst hsv
  clear S I hs sh h1 htab hz hsz
  go_enter Tryz.func24, Tryz.ntmps24
  go_wp2_with fail
  refine HCK.out.mono ?_
  rintro e w1 ⟨x, rfl, he, hb⟩
  have HB1 := hid hb
  rcases he.kind with ⟨_, rfl⟩ | ⟨h, _⟩
  rotate_left
  · exact absurd h0 h
  clear he hb HCK h0
  go_wp2_with fail
  refine (HIS.out _ HB1.out).mono ?_
  rintro e w2 ⟨rfl, hb⟩
  have HB2 := hid (HB1.out.trans (hb.mono HB1.out.size))
  clear hb
  go_wp2_with fail
  refine (HLR.out _ HB2.out).mono ?_
  rintro e w3 ⟨lu, rfl, ho, hK, hb⟩
  have HB3 := hid (HB2.out.trans (hb.mono HB2.out.size))
  have HML := hid (own_ms ho)
  have HKZ := hid (HLZ.out hK)
  obtain ⟨la, lc, hlu⟩ := own_slN ho
  subst hlu
  clear hb ho hK HLR HIS HLZ
  have HYL := hid (latL_len Q sel)
  have HYG := hid (fun (i : Nat) (h : i < (latL Q sel).length) (h' : i < sel.length) => latL_get (Q := Q) h h')
  obtain ⟨Y, HY⟩ : ∃ Y, Hid (latL Q sel = Y) := ⟨_, hid rfl⟩
  rw [HY.out] at HML HYL HYG ⊢
  clear HY
  go_wp2_with fail
  go_loopw [7, 23] (fun ov iv wr => ∃ i : Nat, i ≤ Y.length ∧ iv = .int .i64 i ∧ Hid (wr.ownsRow w3.heap.size 46 2 ov (newsL Q (sel.take i)).length (flatM (newsL Q (sel.take i)))) ∧ Hid (Below w3.heap.size w3 wr)) (fun _ iv _ => Y.length - (intOf iv).toNat)
  case atStart => exact ⟨0, Nat.zero_le _, rfl, hid (World.ownsRow_nil _ _ _ _), hid (Below.refl _ _)⟩
  case round =>
    obtain ⟨i, hi, rfl, HOW, HBr⟩ := hrel
    have HBw := hid (HB3.out.trans (HBr.out.mono HB3.out.size))
    by_cases hlt : i < Y.length
    · have hls : i < sel.length := by rw [← HYL.out]; exact hlt
      have hiI := ix_lt hlt
      have hsI := ix_lt hls
      have hii := ix_pos i
      have HLI := hid hlt
      have HYM := hid (show Y.length ≤ 1000000 by rw [HYL.out]; exact HSN.out)
      obtain ⟨xb, xo, hxa, x0, x1⟩ := (HML.out.below HBr.out).cells hlt
      subst hxa
      obtain ⟨yb, yo, hya, y0, y1⟩ := (HMS.out _ HBw.out).cells hls
      subst hya
      rw [HYG.out i hlt hls] at x0 x1
      have HNX := hid (newsL_next (Q := Q) hls)
      have HPZ := hid (HKZ.out sel[i] (List.getElem_mem hls))
      have HQZ := hid (HSZ.out sel[i] (List.getElem_mem hls))
      have HNL := hid (show (newsL Q (sel.take i)).length ≤ 1000 from Nat.le_trans (newsL_len Q _) (Nat.le_trans (List.length_take_le' i sel) HSL.out))
      generalize sel[i] = x at *
      obtain ⟨p, q⟩ := x
      simp only at x0 x1 y0 y1 HNX HPZ HQZ
      generalize latV Q p = lv at *
      obtain ⟨SX, hSX⟩ : ∃ SX, newsL Q (sel.take i) = SX := ⟨_, rfl⟩
      rw [hSX] at HOW HNX HNL
      clear hSX hlt hls
      have HAl := hid ((Below.refl wr.heap.size wr).alloc (Nat.le_refl _) (.cells #[.string p, .string lv] 46))
      have HBa := hid (HBr.out.trans (HAl.out.mono HBr.out.size))
      have HBv := hid (HBw.out.trans (HAl.out.mono HBw.out.size))
      have HM0 := hid (heap_new wr (.cells #[.string p, .string lv] 46))
      have HOa := hid (HOW.out.alloc (.cells #[.string p, .string lv] 46))
      have HLP := hid (fun W (h : Below w.heap.size w W) => HLS.out q lv W h HQZ.out HPZ.out)
      replace y1 := cell_below HAl.out y1
      go_wp2_with fail
      obtain ⟨wa, hwa⟩ : ∃ wa, wr.alloc (.cells #[.string p, .string lv] 46) = wa := ⟨_, rfl⟩
      rw [hwa] at HAl HBa HBv HM0 HOa y1 ⊢
      clear hwa
      obtain ⟨m0, m1, mf⟩ := box2J HM0.out
      have HW := hid (fun W' (hW : Below wa.heap.size wa W') => HBv.out.trans (hW.mono HBv.out.size))
      have HT := hid (fun W' (hW : Below wa.heap.size wa W') => (show (fun W' => W'.cell? ⟨yb, yo + i * 2 + 1, none⟩ = some (.string q) ∧ W'.cell? ⟨wr.heap.size, 1, none⟩ = some (.string lv) ∧ Hid (Below wa.heap.size wa W')) W' from ⟨cell_below hW y1, cell_below hW m1, hid hW⟩))
      change Hid (newsL Q (sel.take (i + 1)) = SX ++ if lessB q.data.toList lv.data.toList then [(p, lv)] else []) at HNX
      cases hle : lessB q.data.toList lv.data.toList with
      | false =>
        rw [hle] at HLP HNX
        have HN2 := hid (show newsL Q (sel.take (i + 1)) = SX by rw [HNX.out]; simp)
        clear hle
        go_region_held (fun W' => W'.cell? ⟨yb, yo + i * 2 + 1, none⟩ = some (.string q) ∧ W'.cell? ⟨wr.heap.size, 1, none⟩ = some (.string lv) ∧ Hid (Below wa.heap.size wa W')) (first | exact HT.out _ HRa.out | exact HT.out _ (below_drawn _ 1)) (first
          | (go_at_call 48; refine (HLP.out _ (HW.out _ (below_drawn _ 1))).mono ?_; rintro e w4 ⟨rfl, hb⟩; have HRa := hid ((below_drawn wa 1).trans (hb.mono (Nat.le_refl _))); clear hb))
        all_goals
          have HB5 := hid (HBa.out.trans (HRa.out.mono HBa.out.size))
          have HO5 := hid (owns_below HOa.out HRa.out)
          go_wp2_with fail
          go_roundw
          case rel => first | exact ⟨i + 1, HLI.out, nr_idx i, hid (by rw [HN2.out]; exact HO5.out), HB5⟩ | exact ⟨i + 1, HLI.out, nx_idx HLI.out HYM.out, hid (by rw [HN2.out]; exact HO5.out), HB5⟩
          case measure => first | exact nr_meas HLI.out | exact nx_meas HLI.out HYM.out
      | true =>
        rw [hle] at HLP HNX
        have HN2 := hid (show newsL Q (sel.take (i + 1)) = SX ++ [(p, lv)] by rw [HNX.out]; simp)
        clear hle
        go_region_held (fun W' => W'.cell? ⟨yb, yo + i * 2 + 1, none⟩ = some (.string q) ∧ W'.cell? ⟨wr.heap.size, 1, none⟩ = some (.string lv) ∧ Hid (Below wa.heap.size wa W')) (first | exact HT.out _ HRa.out | exact HT.out _ (below_drawn _ 1)) (first
          | (go_at_call 48; refine (HLP.out _ (HW.out _ (below_drawn _ 1))).mono ?_; rintro e w4 ⟨rfl, hb⟩; have HRa := hid ((below_drawn wa 1).trans (hb.mono (Nat.le_refl _))); clear hb))
        all_goals
          have HB5 := hid (HBa.out.trans (HRa.out.mono HBa.out.size))
          have HO5 := hid (owns_below HOa.out HRa.out)
          have n0 := cell_below HRa.out m0
          have n1 := cell_below HRa.out m1
          clear m0 m1 mf
          go_wp2_with (at_builtin; refine wpList_append_own _ rfl _ _ 23 rfl w3.heap.size 46 i0 _ 2 32 Tryz.underlying23 hi0 hz0 hz1 hz2 rfl (by decide) _ _ _ rfl (HO5.out.alloc _) ⟨w4.heap.size, 0, none⟩ 1 1 [.string p, .string lv] rfl rfl (World.news_of_block (heap_new _ _)) (by intro u hu; simp at hu; rcases hu with rfl | rfl <;> rfl) (Nat.le_trans (Nat.add_le_add_right HNL.out 1) (by unfold maxLen; decide)) (by have hz := HNL.out; omega) (Nat.le_trans HB5.out.size (by simp)) ?_)
          intro v' w6 hown hgrow _
          have HB6 := hid (rel_app2 HB5.out.size HB5.out HO5.out (Below.refl _ _) hgrow)
          have HO6 := hid (show w6.ownsRow w3.heap.size 46 2 v' (SX ++ [(p, lv)]).length (flatM (SX ++ [(p, lv)])) by rw [List.length_append, flatM_app]; exact hown)
          clear hown hgrow
          go_wp2_with fail
          go_roundw
          case rel => first | exact ⟨i + 1, HLI.out, nr_idx i, hid (by rw [HN2.out]; exact HO6.out), HB6⟩ | exact ⟨i + 1, HLI.out, nx_idx HLI.out HYM.out, hid (by rw [HN2.out]; exact HO6.out), HB6⟩
          case measure => first | exact nr_meas HLI.out | exact nx_meas HLI.out HYM.out
    · have hiI := ix_nlt hlt
      have HTA := hid (show sel.take i = sel from List.take_of_length_le (by have := HYL.out; omega))
      rw [HTA.out] at HOW
      have HOF := hid (own_base HOW.out HB3.out.size)
      obtain ⟨oa, oc, hov⟩ := own_slN HOW.out
      subst hov
      clear hlt
      go_wp2_with fail
      go_ret2
      exact ⟨_, rfl, HOF.out, HBw.out⟩
end Ve
end Go.Proofs.YtoaobngpdaidoaaGreatDoor

/-
  The closed fact of chapter 7 (upped): all that is newer, in a small index; FindOf of any index.
-/
namespace Go.Proofs.YtoaobngpdaidoaaGreatDoor
open Go.RowKit Go.Maps
namespace Ve

theorem bX_of {w : World} {v : Value} {Q : List Raw} {L : List Ent} {roots D E : List Bm} (I : Ixs w v Q L) (h : (chkG Q L roots).1 = 0) (hD : ∀ m, Rch (reqQ Q L) roots m ↔ m ∈ D) (j : Jn D E) : bX Q L roots = E :=
  (bX_jn Q L roots).one j (fun m _ => by rw [rX_mem I h, hD])
theorem sm_r0 (g : Nat) : reqQ (smQ g) smL ma0 = [] := by kernel_rfl
theorem sm_chkG3 (g : Nat) : (chkG (smQ g) smL [ma0]).1 = 0 := by
  rw [chkG_ok (by rw [sm_chk])]
  show codeE (nonE (smQ g) [ma0]) 1 = 0
  kernel_rfl
theorem sm_chkG4 (g : Nat) : (chkG (smQ g) smL [ma1, mb0, ma1, mb0]).1 = 0 := by
  rw [chkG_ok (by rw [sm_chk])]
  show codeE (nonE (smQ g) [ma1, mb0, ma1, mb0]) 4 = 0
  kernel_rfl
theorem rch_sm {g : Nat} {R D : List Bm} (hR : ∀ m, m ∈ R → m ∈ D) (hD : ∀ p, p ∈ D → ∀ m, m ∈ reqQ (smQ g) smL p → m ∈ D) {m : Bm} (h : Rch (reqQ (smQ g) smL) R m) : m ∈ D := by
  induction h with
  | root hr => exact hR _ hr
  | step _ hr ih => exact hD _ ih _ hr
theorem sm_in {g : Nat} {p m : Bm} (hp : p ∈ [ma0, ma1, mb0]) (hm : m ∈ reqQ (smQ g) smL p) : p = ma1 ∧ m = mb0 := by
  rcases List.mem_cons.1 hp with rfl | hp
  · rw [sm_r0] at hm; cases hm
  · rcases List.mem_cons.1 hp with rfl | hp
    · rw [sm_r1] at hm; exact ⟨rfl, List.mem_singleton.1 hm⟩
    · rw [List.mem_singleton.1 hp, sm_rb] at hm; cases hm
theorem ma0_ne : ma0 ≠ ma1 := fun e => absurd (congrArg (fun m : Bm => m.2.data) e) (by decide)
theorem rch0 {g : Nat} (m : Bm) : Rch (reqQ (smQ g) smL) [ma0] m ↔ m ∈ [ma0] := by
  refine ⟨fun h => rch_sm (fun _ h => h) (fun p hp m hm => ?_) h, fun h => .root h⟩
  have := List.mem_singleton.1 hp
  subst this
  exact absurd (sm_in (by simp) hm).1 ma0_ne
theorem rch1 {g : Nat} (m : Bm) : Rch (reqQ (smQ g) smL) [ma0, ma1] m ↔ m ∈ [ma0, ma1, mb0] := by
  refine ⟨fun h => rch_sm (fun m h => ?_) (fun p hp m hm => ?_) h, fun h => ?_⟩
  · rcases List.mem_cons.1 h with rfl | h
    · simp
    · rw [List.mem_singleton.1 h]; simp
  · rw [(sm_in hp hm).2]; simp
  · rcases List.mem_cons.1 h with rfl | h
    · exact .root (by simp)
    · rcases List.mem_cons.1 h with rfl | h
      · exact .root (by simp)
      · rw [List.mem_singleton.1 h]
        exact .step (.root (show ma1 ∈ [ma0, ma1] by simp)) (by rw [sm_r1]; simp)
theorem rch2 {g : Nat} (m : Bm) : Rch (reqQ (smQ g) smL) [ma1, mb0, ma1, mb0] m ↔ m ∈ [ma1, mb0] := by
  refine ⟨fun h => rch_sm (fun m h => ?_) (fun p hp m hm => ?_) h, fun h => .root ?_⟩
  · have h3 : m = ma1 ∨ m = mb0 ∨ m = ma1 ∨ m = mb0 := by simpa using h
    rcases h3 with rfl | rfl | rfl | rfl <;> simp
  · rw [(sm_in (List.mem_cons_of_mem _ hp) hm).2]; simp
  · rcases List.mem_cons.1 h with rfl | h
    · simp
    · rw [List.mem_singleton.1 h]; simp
theorem sm_m0 : mErr ma0 = 0 := by kernel_rfl
theorem sm_m1 : mErr ma1 = 0 := by kernel_rfl
theorem sm_mb : mErr mb0 = 0 := by kernel_rfl
theorem jn0 : Jn [ma0] [ma0] := ⟨List.pairwise_singleton _ _, fun e he => ⟨he, by rw [List.mem_singleton.1 he]; exact sm_m0⟩, fun x hx _ => ⟨x, hx, rfl, by rw [List.mem_singleton.1 hx]; exact ordV_selfJ sm_m0⟩⟩
theorem jn2 : Jn [ma1, mb0] [ma1, mb0] := by
  refine ⟨sm_jn.ri, fun e he => ⟨he, (sm_jn.sub e he).2⟩, fun x hx h0 => ⟨x, hx, rfl, ordV_selfJ h0⟩⟩
theorem sm_ordA : ordV ma0.2.data.toList ma1.2.data.toList < 0 := of_decide_eq_true (by kernel_rfl)
theorem sm_keptA (g : Nat) : KeptT (smQ g) ma0.1 [ma0.2, ma1.2] := by
  have e : verL (bestR (ofP ma0.1 (smQ g))) = [ma0.2, ma1.2] := by kernel_rfl
  unfold KeptT
  rw [e]
  refine ⟨List.pairwise_cons.2 ⟨fun t ht => ?_, List.pairwise_singleton _ _⟩, fun t => ⟨fun ht => ⟨ht, ?_⟩, fun ht => ht.1⟩⟩
  · rw [List.mem_singleton.1 ht]; exact sm_ordA
  · have : t = ma0.2.data.toList ∨ t = ma1.2.data.toList := by simpa [bl] using ht
    rcases this with rfl | rfl
    · exact (mErr_zero sm_m0).2
    · exact (mErr_zero sm_m1).2
theorem sm_keptB (g : Nat) : KeptT (smQ g) mb0.1 [mb0.2] := by
  have e : verL (bestR (ofP mb0.1 (smQ g))) = [mb0.2] := by kernel_rfl
  unfold KeptT
  rw [e]
  refine ⟨List.pairwise_singleton _ _, fun t => ⟨fun ht => ⟨ht, ?_⟩, fun ht => ht.1⟩⟩
  have : t = mb0.2.data.toList := by simpa [bl] using ht
  rw [this]
  exact (mErr_zero sm_mb).2
theorem sm_latA (g : Nat) : latV (smQ g) ma0.1 = ma1.2 := (latV_of (sm_keptA g)).symm.trans rfl
theorem sm_latB (g : Nat) : latV (smQ g) mb0.1 = mb0.2 := (latV_of (sm_keptB g)).symm.trans rfl
theorem sm_up0 {w : World} {v : Value} {g : Nat} (I : Ixs w v (smQ g) smL) : bX (smQ g) smL [ma0] = [ma0] := bX_of I (sm_chkG3 g) rch0 jn0
theorem sm_up1 {w : World} {v : Value} {g : Nat} (I : Ixs w v (smQ g) smL) : upF (smQ g) smL [ma0] = [ma1, mb0] := by
  have e : [ma0] ++ latL (smQ g) [ma0] = [ma0, ma1] := by
    show [ma0, (ma0.1, latV (smQ g) ma0.1)] = [ma0, ma1]
    rw [sm_latA]; rfl
  unfold upF
  rw [e]
  exact bX_of I (sm_chkG2 g) rch1 sm_jn
theorem sm_up2 {w : World} {v : Value} {g : Nat} (I : Ixs w v (smQ g) smL) : upF (smQ g) smL [ma1, mb0] = [ma1, mb0] := by
  have e : [ma1, mb0] ++ latL (smQ g) [ma1, mb0] = [ma1, mb0, ma1, mb0] := by
    show [ma1, mb0, (ma1.1, latV (smQ g) ma0.1), (mb0.1, latV (smQ g) mb0.1)] = [ma1, mb0, ma1, mb0]
    rw [sm_latA, sm_latB]
  unfold upF
  rw [e]
  exact bX_of I (sm_chkG4 g) rch2 jn2
theorem sm_fix {w : World} {v : Value} {g : Nat} (I : Ixs w v (smQ g) smL) : Fix (smQ g) smL (bX (smQ g) smL [ma0]) [ma1, mb0] :=
  ⟨⟨1, by show [ma1, mb0] = upF (smQ g) smL (bX (smQ g) smL [ma0]); rw [sm_up0 I, sm_up1 I]⟩, sm_up2 I⟩
theorem sm_sz (g : Nat) : ∀ r, r ∈ smQ g → r.1.1.size ≤ 80 ∧ r.1.2.size ≤ 80 := fun r hr => by
  have : r = (ma0, .slice none 0 0, .slice none 0 0, false) ∨ r = (ma1, .slice (some ⟨g, 0, none⟩) 1 1, .slice none 0 0, false) ∨ r = (mb0, .slice none 0 0, .slice none 0 0, false) := by simpa [smQ] using hr
  rcases this with rfl | rfl | rfl
  · exact ⟨show ma0.1.size ≤ 80 by decide, show ma0.2.size ≤ 80 by decide⟩
  · exact ⟨show ma1.1.size ≤ 80 by decide, show ma1.2.size ≤ 80 by decide⟩
  · exact ⟨show mb0.1.size ≤ 80 by decide, show mb0.2.size ≤ 80 by decide⟩
set_option maxRecDepth 100000 in
set_option maxHeartbeats 4000000 in
/-- pewholderlaw2.upped. -/
theorem upped_any (A : Nat → Addr) (m : Int) (w : World) (S : Te w A m) (htab : Lib.TabIs Tryz.prog w powName .u64 Lib.pow10Tab) : Calls Tryz.prog 22 #[] w fun e w' => e = .returned (.bool true) ∧ Below w.heap.size w w' := by
  have HSM := hid smallI_any
  have HS := hid S
  have HT := hid htab
  clear S htab
  go_enter Tryz.func22, Tryz.ntmps22
  go_wp2_with fail
  refine (HSM.out w).mono ?_
  rintro e w1 ⟨g, q, rfl, hix, hb⟩
  have hBa := (Below.refl w1.heap.size w1).alloc (Nat.le_refl _) (.cells #[.string ⟨#[97]⟩, .string ⟨#[118, 49, 46, 48, 46, 48]⟩] 46)
  have hB1 := hb.trans (hBa.mono hb.size)
  have hms : MsAt (w1.alloc (.cells #[.string ⟨#[97]⟩, .string ⟨#[118, 49, 46, 48, 46, 48]⟩] 46)) (.slice (some ⟨w1.heap.size, 0, none⟩) 1 1) [ma0] := ms_single (x := ma0) (heap_new w1 _)
  have HAL := hid (all_good (smQ g) smL [ma0] _ _ A m _ (by decide) (by decide) (sm_sz g) sm_sh (HS.out.below hB1) (tab_below HT.out hB1) (hix.below hBa) hms (sm_chkG3 g))
  have HFX := hid (sm_fix hix)
  have HB1 := hid hB1
  clear hix hb hBa hms hB1
  go_wp2_with fail
  refine HAL.out.mono ?_
  rintro e w2 ⟨ua, uc, E, rfl, hM, hR⟩
  have hE := hR.fx.one HFX.out
  subst hE
  have HB2 := hid (HB1.out.trans (hM.1.mono HB1.out.size))
  obtain ⟨_, ua', uc', he, huc, hk⟩ := hM
  injection he with he1 he2 he3
  subst he1 he3
  obtain ⟨ug, rfl, hmw⟩ : ∃ g, ua = some ⟨g, 0, none⟩ ∧ Mw _ w2 g [ma1, mb0] := by
    rcases hk with ⟨h, _⟩ | h
    · cases h
    · exact h
  have k1 : w2.cell? ⟨ug, 1, none⟩ = some (.string ⟨#[118, 49, 46, 49, 46, 48]⟩) := hmw.c1 0 (by decide)
  have s1 : ((⟨#[118, 49, 46, 49, 46, 48]⟩ : ByteArray).toList == (⟨#[118, 49, 46, 49, 46, 48]⟩ : ByteArray).toList) = true := by simp
  rw [show ([ma1, mb0] : List Bm).length = 2 from rfl]
  clear hR hk hmw HAL he2 huc HFX
  go_wp2_with fail
  go_ret
  exact ⟨rfl, HB2.out⟩
theorem findOf_noneJ (a : Option Addr) (c : Nat) (m : Bm) (w : World) : Calls Tryz.prog 26 #[.slice a 0 c, .agg #[.string m.1, .string m.2]] w fun e w' => e = .returned (.int .i64 (-1)) ∧ Below w.heap.size w w' := by
  have HB0 := hid ((Below.refl w.heap.size w).alloc (Nat.le_refl _) (.cells #[.string m.1, .string m.2] 46))
  go_enter Tryz.func26, Tryz.ntmps26
  go_wp2_with fail
  go_loopw [5] (fun i wr => i = .int .i64 0 ∧ Hid (Below w.heap.size w wr)) (fun i _ => 0)
  case atStart => exact ⟨rfl, HB0⟩
  case round =>
    obtain ⟨rfl, HB⟩ := hrel
    go_wp2_with fail
    go_ret
    exact ⟨rfl, HB.out⟩
theorem findOf_allJ (Q : List Raw) (m : Bm) (v : Value) (w : World) (hL : Q.length ≤ 1000000) (hv : EsAt w v Q) :
    Calls Tryz.prog 26 #[v, .agg #[.string m.1, .string m.2]] w fun e w' => e = .returned (.int .i64 (idxOf (isM m) Q)) ∧ Below w.heap.size w w' := by
  by_cases hQ : Q = []
  · subst hQ
    obtain ⟨a, c, rfl, _⟩ := hv
    exact findOf_noneJ a c m w
  · exact findOf_any Q m v w hL (List.length_pos_iff.2 hQ) hv
end Ve
end Go.Proofs.YtoaobngpdaidoaaGreatDoor

/-
  pewholderlaw2.UpNews walked: of what All answers there are no news; it is over what was built, and built of itself; one more is over what was built, and has it.
-/
namespace Go.Proofs.YtoaobngpdaidoaaGreatDoor
open Go.RowKit Go.Maps
namespace Ve

theorem okI_L30 {L : List Ent} (h : okI L = true) : L.length ≤ 101 := by rcases (okI_iff h).1 with h | h <;> omega
theorem errA5 (A : Nat → Addr) : errA A 5 = .iface 290 (.pointer (some (A 4))) := rfl
set_option maxRecDepth 100000 in
set_option maxHeartbeats 8000000 in
theorem un_main (Q0 : List Raw) (L : List Ent) (roots : List Bm) (x : Bm) (v u : Value) (A : Nat → Addr) (m : Int) (w : World) (S : Te w A m) (htab : Lib.TabIs Tryz.prog w powName .u64 Lib.pow10Tab) (I : Ixs w v Q0 L) (em : EmI Q0 L) (hr : MsAt w u roots) (her : Em u roots) (hok : okI L = true) (hrk : okLN 15 roots = true) (hx1 : x.1.size ≤ 70) (hx2 : x.2.size ≤ 60) :
    Calls Tryz.prog 4 #[v, u, .agg #[.string x.1, .string x.2]] w fun e w' => e = .returned (.bool true) ∧ Below w.heap.size w w' := by
  obtain ⟨xp, xq⟩ := x
  simp only at hx1 hx2 ⊢
  obtain ⟨a0, c0, hv0, -⟩ := id I.es
  subst hv0
  obtain ⟨ra, rc, hu0, -⟩ := id hr
  subst hu0
  have hn101 : L.length ≤ 101 := okI_L30 hok
  have hr15 : roots.length ≤ 15 := (okLN_iff hrk).1
  have HB0 := hid ((Below.refl w.heap.size w).alloc (Nat.le_refl _) (.cells #[.string xp, .string xq] 46))
  have HM0 := hid (heap_new w (.cells #[.string xp, .string xq] 46))
  have HIN := hid (upped_any A m _ (S.below HB0.out) (tab_below htab HB0.out))
  have HLO := hid (fun W (h : Below w.heap.size w W) => longI_any Q0 L _ W (I.below h))
  rw [if_pos hok] at HLO
  have HLM := hid (fun W (h : Below w.heap.size w W) => longN_any 15 (by decide) roots _ W (hr.below h))
  rw [if_pos hrk] at HLM
  have HOW := hid (fun W (h : Below w.heap.size w W) => ownI_any Q0 L _ W (by omega) (I.below h) em (okI_fits hok))
  have HOM := hid (fun W (h : Below w.heap.size w W) => ownM_any _ roots W (by omega) (hr.below h) her)
  have HFO := hid (fun W (h : Below w.heap.size w W) => findOf_allJ Q0 (xp, xq) _ W (by rw [I.ln]; omega) (I.below h).es)
  have HS := hid (fun W (h : Below w.heap.size w W) => S.below h)
  have HT := hid (fun W (h : Below w.heap.size w W) => tab_below htab h)
  have HSH := hid (okI_sh hok)
  have HU0 := hid I
  have HZ0 := hid (fun W v' Q' (J : Ixs W v' Q' L) => ixs_sz J hok)
  have hl1 : (xp.size : Int) ≤ 70 := by omega
  have hl2 : (xq.size : Int) ≤ 60 := by omega
  have HXZ := hid (show xq.size < 999999 by omega)
  clear S I em hok hr her hrk htab
  go_enter Tryz.func4, Tryz.ntmps4
  go_wp2_with fail
  refine HIN.out.mono ?_
  rintro e w1 ⟨rfl, hb⟩
  have HB1 := hid (HB0.out.trans (hb.mono HB0.out.size))
  have HM1 := hid ((hb.block _ (lt_of_blk HM0.out)).trans HM0.out)
  clear hb
  go_wp2_with fail
  refine (HLO.out w1 HB1.out).mono ?_
  rintro e w2 ⟨rfl, hb⟩
  have HB2 := hid (HB1.out.trans (hb.mono HB1.out.size))
  have HM2 := hid ((hb.block _ (lt_of_blk HM1.out)).trans HM1.out)
  clear hb
  go_wp2_with fail
  refine (HLM.out w2 HB2.out).mono ?_
  rintro e w2' ⟨rfl, rfl⟩
  obtain ⟨p0, p1, pf⟩ := box2J HM2.out
  go_wp2_with fail
  refine (HOW.out w2' HB2.out).mono ?_
  rintro e w3 ⟨ou, Q, rfl, hO, hb⟩
  have HB3 := hid (HB2.out.trans (hb.mono HB2.out.size))
  have HM3 := hid ((hb.block _ (lt_of_blk HM2.out)).trans HM2.out)
  have HIX := hid (fun W (h : Below w3.heap.size w3 W) => hO.ixs.below h)
  have HI3 := hid hO.ixs
  have HZQ := hid (HZ0.out _ _ _ hO.ixs)
  obtain ⟨oa, oc, hou, -⟩ := id hO.ixs.es
  subst hou
  have HBW := hid (fun W (h : Below w3.heap.size w3 W) => HB3.out.trans (h.mono HB3.out.size))
  have HUS := hid (fun (R : List Bm) (h : ∀ y, y ∈ R → y ∈ univ L) (y : Bm) (hy : y ∈ R) => (univ_szJ HSH.out (h y hy)).2)
  have HUN := hid (fun (X E : List Bm) (a b : Value) W (h : Below w3.heap.size w3 W) (lX : X.length ≤ 1000) (lE : E.length ≤ 1000) (sX : ∀ y, y ∈ X → y.2.size < 999999) (sE : ∀ y, y ∈ E → y.2.size < 999999) (hX : MsAt W a X) (hE : MsAt W b E) => und_any X E a b A m W (by omega) (by omega) sX sE (HS.out W (HBW.out W h)) hX hE)
  clear hb hO p0 p1 pf HLO HLM HOW HIN HB1 HB2 HM0 HM1 HM2
  have HB3' := HB3
  clear HB3
  have HB3 := hid (Below.refl w3.heap.size w3)
  go_wp2_with fail
  refine (HOM.out w3 (HBW.out _ HB3.out)).mono ?_
  rintro e w4 ⟨u4, rfl, ho, -, hb⟩
  have HB4 := hid (HB3.out.trans (hb.mono HB3.out.size))
  have HR4 := hid (mr_own ho hb)
  have HM4 := hid ((hb.block _ (lt_of_blk HM3.out)).trans HM3.out)
  obtain ⟨a4, c4, hu4⟩ := HR4.out.sl
  subst hu4
  clear ho hb
  by_cases hca : (chkG Q L roots).1 = 0
  rotate_left
  · have HBU := hid (build_bad Q L roots _ _ A m w4 (by omega) (by omega) HSH.out (HS.out _ (HBW.out _ HB4.out)) (HIX.out _ HB4.out) HR4.out.ms hca)
    clear hca
    go_wp2_with fail
    refine HBU.out.mono ?_
    rintro e w5 ⟨T, ea, rfl, -, hb⟩
    have HB5 := hid (HBW.out _ (HB4.out.trans (hb.mono HB4.out.size)))
    clear hb HBU
    go_wp2_with fail
    go_ret
    exact ⟨rfl, HB5.out⟩
  have HCA := hid hca
  have HCK := hid (chkG_chk hca)
  have HBU := hid (build_all Q L roots _ _ A m w4 (by omega) (by omega) HSH.out (HS.out _ (HBW.out _ HB4.out)) (HIX.out _ HB4.out) HR4.out.ms)
  rw [rF_good hca] at HBU
  have HAL := hid (fun (R : List Bm) W a (h : Below w3.heap.size w3 W) (lR : R.length ≤ 1000) (hR : MsAt W a R) (hg : (chkG Q L R).1 = 0) => all_good Q L R _ a A m W (by omega) (by omega) HZQ.out HSH.out (HS.out _ (HBW.out _ h)) (HT.out _ (HBW.out _ h)) (HIX.out _ h) hR hg)
  have HNW := hid (fun (E : List Bm) W a (h : Below w3.heap.size w3 W) (lE : E.length ≤ 1000) (sE : ∀ y, y ∈ E → y.2.size < 999999) (hE : MsAt W a E) (h1 : risB2 E = true) => news_good Q L E _ a A m W (by omega) lE HZQ.out sE HSH.out (HS.out _ (HBW.out _ h)) (HT.out _ (HBW.out _ h)) (HIX.out _ h) hE HCK.out h1)
  have HXU := hid (show ∀ y, y ∈ bX Q L roots → y ∈ univ L from bX_univ)
  have HXL := hid (show (bX Q L roots).length ≤ 1000 from Nat.le_trans bX_len (by omega))
  have HZO := hid (fun (hx : (xp, xq) ∈ univ L) => show undB (bX Q L roots) (bX Q L (roots ++ [(xp, xq)])) = true ∧ undB [(xp, xq)] (bX Q L (roots ++ [(xp, xq)])) = true by
    have hg : (chkG Q L (roots ++ [(xp, xq)])).1 = 0 := chkG_in HI3.out HCK.out fun y hy => by
      rcases List.mem_append.1 hy with h | h
      · exact (rgt_of HI3.out HCA.out).r y h
      · rw [List.mem_singleton.1 h]; exact hx
    exact ⟨bX_over HI3.out hg fun y hy => (bX_in HI3.out HCA.out hy).mono fun _ h => List.mem_append_left _ h, bX_over HI3.out hg fun y hy => .root (List.mem_append_right _ hy)⟩)
  have HONE := hid (fun W a (h : Below w3.heap.size w3 W) (hR : MsAt W a roots) (eR : Em a roots) (hx : (xp, xq) ∈ univ L) => one_good Q L roots (xp, xq) _ a A m W (by omega) (by omega) HSH.out (HS.out _ (HBW.out _ h)) (HIX.out _ h) hR eR HCA.out hx)
  have HONN := hid (fun W a (h : Below w3.heap.size w3 W) (hR : MsAt W a roots) (hx : ¬ (xp, xq) ∈ univ L) => one_not Q L roots (xp, xq) _ a A m W (by omega) (by omega) HSH.out (HS.out _ (HBW.out _ h)) (HIX.out _ h) hR HCA.out hx)
  have HZU := hid (show ∀ y, y ∈ bX Q L (roots ++ [(xp, xq)]) → y ∈ univ L from bX_univ)
  have HZL := hid (show (bX Q L (roots ++ [(xp, xq)])).length ≤ 1000 from Nat.le_trans bX_len (by omega))
  have HEP := hid (fun E (hA : AllR Q L roots E) => show newsL Q E = [] ∧ (chkG Q L E).1 = 0 ∧ (∀ F, AllR Q L E F → F = E) ∧ risB2 E = true ∧ undB (bX Q L roots) E = true from ⟨newsL_none (up_news HI3.out HCK.out hA.sl hA.la hA.fx.f), chkG_in HI3.out HCK.out hA.sl.un, fun F hF => by
    have h := hF.fx
    rw [up_again HI3.out HCK.out hA.sl hA.la hA.fx.f] at h
    exact h.one (Fix.self hA.fx.f), risB2_iff.2 hA.sl.ri, hA.ov⟩)
  have HEL := hid (fun E (hA : AllR Q L roots E) => show E.length ≤ 1000 by
    have h := hA.fx.f
    have h2 : (upF Q L E).length ≤ L.length := bX_len
    rw [h] at h2; omega)
  clear hca
  generalize bX Q L roots = X at *
  go_wp2_with fail
  refine HBU.out.mono ?_
  rintro e w5 ⟨xa, xc, y5, rfl, hm5, he5⟩
  have he5 : y5 = .nilIface := he5
  subst he5
  have HB5 := hid (HB4.out.trans (hm5.1.mono HB4.out.size))
  have HM5 := hid ((hm5.1.block _ (lt_of_blk HM4.out)).trans HM4.out)
  have HMX5 := hid (hm5.ms)
  clear hm5 HBU HB4 HM4 HR4
  go_wp2_with fail
  refine (HOM.out w5 (HBW.out _ HB5.out)).mono ?_
  rintro e w6 ⟨u6, rfl, ho, -, hb⟩
  have HB6 := hid (HB5.out.trans (hb.mono HB5.out.size))
  have HR6 := hid (mr_own ho hb)
  have HM6 := hid ((hb.block _ (lt_of_blk HM5.out)).trans HM5.out)
  obtain ⟨a6, c6, hu6⟩ := HR6.out.sl
  subst hu6
  have HMX6 := hid (HMX5.out.below hb)
  clear ho hb
  have HAE := hid (HAL.out roots w6 _ HB6.out (by omega) HR6.out.ms HCA.out)
  clear HB5 HM5 HMX5
  go_wp2_with fail
  refine HAE.out.mono ?_
  rintro e w7 ⟨ya, yc, E, rfl, hm7, hA⟩
  have HB7 := hid (HB6.out.trans (hm7.1.mono HB6.out.size))
  have HM7 := hid ((hm7.1.block _ (lt_of_blk HM6.out)).trans HM6.out)
  have HMX7 := hid (HMX6.out.below hm7.1)
  have HMY7 := hid (hm7.ms)
  have HEE := hid (HEP.out E hA)
  have HEZ := hid (HEL.out E hA)
  have HEU := hid (hA.sl.un)
  obtain ⟨hnw, hcE, hone, hri, hov⟩ := HEE.out
  have HN1 := hid hnw
  have HCE := hid hcE
  have HON := hid hone
  have HUE := hid (HUN.out X E _ _ w7 HB7.out HXL.out HEZ.out (HUS.out X HXU.out) (HUS.out E HEU.out) HMX7.out HMY7.out)
  rw [hov] at HUE
  have HRI := hid hri
  clear hm7 hA HEE hnw hcE hone hri hov HAE HB6 HM6 HR6 HMX6
  go_wp2_with fail
  refine HUE.out.mono ?_
  rintro e w8 ⟨rfl, hb⟩
  have HB8 := hid (HB7.out.trans (hb.mono HB7.out.size))
  have HM8 := hid ((hb.block _ (lt_of_blk HM7.out)).trans HM7.out)
  have HMX8 := hid (HMX7.out.below hb)
  have HMY8 := hid (HMY7.out.below hb)
  have HNE := hid (HNW.out E w8 _ HB8.out HEZ.out (HUS.out E HEU.out) HMY8.out HRI.out)
  rw [HN1.out] at HNE
  clear hb HB7 HM7 HMX7 HMY7 HUE HNW
  go_wp2_with fail
  refine HNE.out.mono ?_
  rintro e w9 ⟨nu, rfl, hno, hb⟩
  have HB9 := hid (HB8.out.trans (hb.mono HB8.out.size))
  have HM9 := hid ((hb.block _ (lt_of_blk HM8.out)).trans HM8.out)
  have HMX9 := hid (HMX8.out.below hb)
  have HMY9 := hid (HMY8.out.below hb)
  obtain ⟨na, nc, hnu⟩ := own_slN hno
  subst hnu
  rw [show ([] : List Bm).length = 0 from rfl]
  have HAF := hid (HAL.out E w9 _ HB9.out HEZ.out HMY9.out HCE.out)
  clear hb hno HB8 HM8 HMX8 HMY8 HNE HAL
  go_wp2_with fail
  refine HAF.out.mono ?_
  rintro e w10 ⟨fa, fc, F, rfl, hm10, hA⟩
  have hF := HON.out F hA
  subst hF
  have HB10 := hid (HB9.out.trans (hm10.1.mono HB9.out.size))
  have HM10 := hid ((hm10.1.block _ (lt_of_blk HM9.out)).trans HM9.out)
  have HMX10 := hid (HMX9.out.below hm10.1)
  have HMY10 := hid (HMY9.out.below hm10.1)
  have HSA := hid (sameM_any F _ _ w10 (Nat.le_trans HEZ.out (by decide)) hm10.ms (HMY9.out.below hm10.1))
  clear hm10 hA HON HB9 HM9 HMX9 HMY9 HAF
  go_wp2_with fail
  refine HSA.out.mono ?_
  rintro e w11 ⟨rfl, hb⟩
  have HB11 := hid (HB10.out.trans (hb.mono HB10.out.size))
  have HM11 := hid ((hb.block _ (lt_of_blk HM10.out)).trans HM10.out)
  have HMX11 := hid (HMX10.out.below hb)
  clear hb HB10 HM10 HMX10 HMY10 HSA
  go_wp2_with fail
  obtain ⟨q0, q1, qf⟩ := box2J HM11.out
  have HTT := hid (fun W' (hW : Below w11.heap.size w11 W') => (show (fun W' => W'.cell? ⟨w.heap.size, 0, none⟩ = some (.string xp) ∧ W'.cell? ⟨w.heap.size, 1, none⟩ = some (.string xq) ∧ Hid (Below w11.heap.size w11 W')) W' from ⟨cell_below hW q0, cell_below hW q1, hid hW⟩))
  have HW1 := hid (fun W' (hW : Below w11.heap.size w11 W') => HB11.out.trans (hW.mono HB11.out.size))
  by_cases hx : (xp, xq) ∈ univ L
  · have HXX := hid hx
    obtain ⟨ho1, ho2⟩ := HZO.out hx
    have HO1 := hid ho1
    have HO2 := hid ho2
    clear hx ho1 ho2 HONN HZO
    generalize bX Q L (roots ++ [(xp, xq)]) = Z at *
    go_region_held (fun W' => W'.cell? ⟨w.heap.size, 0, none⟩ = some (.string xp) ∧ W'.cell? ⟨w.heap.size, 1, none⟩ = some (.string xq) ∧ Hid (Below w11.heap.size w11 W')) (first | exact HTT.out _ HRb.out | exact HTT.out _ HRa.out | exact HTT.out _ (below_drawn _ 1)) (first
      | (go_at_call 12; refine (HOM.out _ (HBW.out _ (HW1.out _ (below_drawn _ 1)))).mono ?_; rintro e w12 ⟨u12, rfl, ho, -, hb⟩; have HRa := hid ((below_drawn w11 1).trans (hb.mono (Nat.le_refl _))); have HR12 := hid (mr_own ho hb); obtain ⟨a12, c12, hu12⟩ := HR12.out.sl; subst hu12; clear ho hb)
      | (go_at_call 25; refine (HONE.out w12 _ (HW1.out _ HRa.out) HR12.out.ms HR12.out.em HXX.out).mono ?_; rintro e w13 ⟨za, zc, rfl, hm13⟩; have HRb := hid (HRa.out.trans (hm13.1.mono HRa.out.size)); have HMZ13 := hid hm13.ms; clear hm13))
    all_goals
      have HB13 := hid (HW1.out _ HRb.out)
      have HM13 := hid ((HRb.out.block _ (lt_of_blk HM11.out)).trans HM11.out)
      have HMX13 := hid (HMX11.out.below HRb.out)
      have HUX := hid (HUN.out X Z _ _ w13 HB13.out HXL.out HZL.out (HUS.out X HXU.out) (HUS.out Z HZU.out) HMX13.out HMZ13.out)
      rw [HO1.out] at HUX
      clear q0 q1 qf
      go_wp2_with fail
      refine HUX.out.mono ?_
      rintro e w14 ⟨rfl, hb⟩
      have HB14 := hid (HB13.out.trans (hb.mono HB13.out.size))
      have HM14 := hid ((hb.block _ (lt_of_blk HM13.out)).trans HM13.out)
      have HMZ14 := hid (HMZ13.out.below hb)
      obtain ⟨q0, q1, qf⟩ := box2J HM14.out
      have HA15 := hid ((Below.refl w14.heap.size w14).alloc (Nat.le_refl _) (.cells #[.string xp, .string xq] 46))
      have HN15 := hid (heap_new w14 (.cells #[.string xp, .string xq] 46))
      clear hb HB13 HM13 HMX13 HMZ13 HUX
      go_wp2_with fail
      generalize w14.alloc (.cells #[.string xp, .string xq] 46) = w15 at *
      have HB15 := hid (HB14.out.trans (HA15.out.mono HB14.out.size))
      have HUY := hid (HUN.out [(xp, xq)] Z _ _ w15 HB15.out (by simp) HZL.out (fun y hy => by rw [List.mem_singleton.1 hy]; exact HXZ.out) (HUS.out Z HZU.out) (ms_single (x := (xp, xq)) HN15.out) (HMZ14.out.below HA15.out))
      rw [HO2.out] at HUY
      refine HUY.out.mono ?_
      rintro e w16 ⟨rfl, hb⟩
      have HB16 := hid (HBW.out _ (HB15.out.trans (hb.mono HB15.out.size)))
      clear hb
      go_wp2_with fail
      go_ret
      exact ⟨rfl, HB16.out⟩
  · have HXX := hid hx
    obtain ⟨k, hk, hkn⟩ : ∃ k, idxOf (isM (xp, xq)) Q0 = k ∧ k < 0 := by
      rcases idx_nat (isM (xp, xq)) Q0 with h1 | ⟨k, h1⟩
      · exact ⟨_, h1, by omega⟩
      · exact absurd ((found_iff HU0.out (xp, xq)).2 ⟨k, h1⟩) hx
    rw [hk] at HFO
    rw [errA5] at HONN
    clear hx hk HONE HZO
    go_region_held (fun W' => W'.cell? ⟨w.heap.size, 0, none⟩ = some (.string xp) ∧ W'.cell? ⟨w.heap.size, 1, none⟩ = some (.string xq) ∧ Hid (Below w11.heap.size w11 W')) (first | exact HTT.out _ HRb.out | exact HTT.out _ HRa.out | exact HTT.out _ (below_drawn _ 1)) (first
      | (go_at_call 12; refine (HOM.out _ (HBW.out _ (HW1.out _ (below_drawn _ 1)))).mono ?_; rintro e w12 ⟨u12, rfl, ho, -, hb⟩; have HRa := hid ((below_drawn w11 1).trans (hb.mono (Nat.le_refl _))); have HR12 := hid (mr_own ho hb); obtain ⟨a12, c12, hu12⟩ := HR12.out.sl; subst hu12; clear ho hb)
      | (go_at_call 25; refine (HONN.out w12 _ (HW1.out _ HRa.out) HR12.out.ms HXX.out).mono ?_; rintro e w13 ⟨rfl, hb⟩; have HRb := hid (HRa.out.trans (hb.mono HRa.out.size)); clear hb))
    all_goals
      have HB13 := hid (HW1.out _ HRb.out)
      have HM13 := hid ((HRb.out.block _ (lt_of_blk HM11.out)).trans HM11.out)
      clear q0 q1 qf
      obtain ⟨q0, q1, qf⟩ := box2J HM13.out
      go_wp2_with fail
      refine (HFO.out _ (HBW.out _ HB13.out)).mono ?_
      rintro e w14 ⟨rfl, hb⟩
      have HB14 := hid (HBW.out _ (HB13.out.trans (hb.mono HB13.out.size)))
      clear hb
      go_wp2_with fail
      go_ret
      exact ⟨rfl, HB14.out⟩
set_option maxRecDepth 100000 in
set_option maxHeartbeats 2000000 in
theorem un_long1 (Q0 : List Raw) (L : List Ent) (roots : List Bm) (x : Bm) (v u : Value) (A : Nat → Addr) (m : Int) (w : World) (S : Te w A m) (htab : Lib.TabIs Tryz.prog w powName .u64 Lib.pow10Tab) (I : Ixs w v Q0 L) (hr : MsAt w u roots) (hok : okI L = false) :
    Calls Tryz.prog 4 #[v, u, .agg #[.string x.1, .string x.2]] w fun e w' => e = .returned (.bool true) ∧ Below w.heap.size w w' := by
  obtain ⟨xp, xq⟩ := x
  simp only
  obtain ⟨a0, c0, hv0, -⟩ := id I.es
  subst hv0
  obtain ⟨ra, rc, hu0, -⟩ := id hr
  subst hu0
  have HB0 := hid ((Below.refl w.heap.size w).alloc (Nat.le_refl _) (.cells #[.string xp, .string xq] 46))
  have HM0 := hid (heap_new w (.cells #[.string xp, .string xq] 46))
  have HIN := hid (upped_any A m _ (S.below HB0.out) (tab_below htab HB0.out))
  have HLO := hid (fun W (h : Below w.heap.size w W) => longI_any Q0 L _ W (I.below h))
  rw [hok] at HLO
  clear S htab I hok hr
  go_enter Tryz.func4, Tryz.ntmps4
  go_wp2_with fail
  refine HIN.out.mono ?_
  rintro e w1 ⟨rfl, hb⟩
  have HB1 := hid (HB0.out.trans (hb.mono HB0.out.size))
  have HM1 := hid ((hb.block _ (lt_of_blk HM0.out)).trans HM0.out)
  clear hb
  go_wp2_with fail
  refine (HLO.out w1 HB1.out).mono ?_
  rintro e w2 ⟨rfl, hb⟩
  have HB2 := hid (HB1.out.trans (hb.mono HB1.out.size))
  have HM2 := hid ((hb.block _ (lt_of_blk HM1.out)).trans HM1.out)
  clear hb
  go_wp2_with fail
  go_ret
  exact ⟨rfl, HB2.out⟩
set_option maxRecDepth 100000 in
set_option maxHeartbeats 2000000 in
theorem un_long2 (Q0 : List Raw) (L : List Ent) (roots : List Bm) (x : Bm) (v u : Value) (A : Nat → Addr) (m : Int) (w : World) (S : Te w A m) (htab : Lib.TabIs Tryz.prog w powName .u64 Lib.pow10Tab) (I : Ixs w v Q0 L) (hr : MsAt w u roots) (hok : okI L = true) (hrk : okLN 15 roots = false) :
    Calls Tryz.prog 4 #[v, u, .agg #[.string x.1, .string x.2]] w fun e w' => e = .returned (.bool true) ∧ Below w.heap.size w w' := by
  obtain ⟨xp, xq⟩ := x
  simp only
  obtain ⟨a0, c0, hv0, -⟩ := id I.es
  subst hv0
  obtain ⟨ra, rc, hu0, -⟩ := id hr
  subst hu0
  have HB0 := hid ((Below.refl w.heap.size w).alloc (Nat.le_refl _) (.cells #[.string xp, .string xq] 46))
  have HM0 := hid (heap_new w (.cells #[.string xp, .string xq] 46))
  have HIN := hid (upped_any A m _ (S.below HB0.out) (tab_below htab HB0.out))
  have HLO := hid (fun W (h : Below w.heap.size w W) => longI_any Q0 L _ W (I.below h))
  rw [if_pos hok] at HLO
  have HLM := hid (fun W (h : Below w.heap.size w W) => longN_any 15 (by decide) roots _ W (hr.below h))
  rw [hrk] at HLM
  clear S htab I hok hr hrk
  go_enter Tryz.func4, Tryz.ntmps4
  go_wp2_with fail
  refine HIN.out.mono ?_
  rintro e w1 ⟨rfl, hb⟩
  have HB1 := hid (HB0.out.trans (hb.mono HB0.out.size))
  have HM1 := hid ((hb.block _ (lt_of_blk HM0.out)).trans HM0.out)
  clear hb
  go_wp2_with fail
  refine (HLO.out w1 HB1.out).mono ?_
  rintro e w2 ⟨rfl, hb⟩
  have HB2 := hid (HB1.out.trans (hb.mono HB1.out.size))
  have HM2 := hid ((hb.block _ (lt_of_blk HM1.out)).trans HM1.out)
  clear hb
  go_wp2_with fail
  refine (HLM.out w2 HB2.out).mono ?_
  rintro e w2' ⟨rfl, rfl⟩
  go_wp2_with fail
  go_ret
  exact ⟨rfl, HB2.out⟩
set_option maxRecDepth 100000 in
set_option maxHeartbeats 2000000 in
theorem un_long3 (Q0 : List Raw) (L : List Ent) (roots : List Bm) (x : Bm) (v u : Value) (A : Nat → Addr) (m : Int) (w : World) (S : Te w A m) (htab : Lib.TabIs Tryz.prog w powName .u64 Lib.pow10Tab) (I : Ixs w v Q0 L) (hr : MsAt w u roots) (hok : okI L = true) (hrk : okLN 15 roots = true) (hx1 : ¬ x.1.size ≤ 70) :
    Calls Tryz.prog 4 #[v, u, .agg #[.string x.1, .string x.2]] w fun e w' => e = .returned (.bool true) ∧ Below w.heap.size w w' := by
  obtain ⟨xp, xq⟩ := x
  simp only at hx1 ⊢
  obtain ⟨a0, c0, hv0, -⟩ := id I.es
  subst hv0
  obtain ⟨ra, rc, hu0, -⟩ := id hr
  subst hu0
  have HB0 := hid ((Below.refl w.heap.size w).alloc (Nat.le_refl _) (.cells #[.string xp, .string xq] 46))
  have HM0 := hid (heap_new w (.cells #[.string xp, .string xq] 46))
  have HIN := hid (upped_any A m _ (S.below HB0.out) (tab_below htab HB0.out))
  have HLO := hid (fun W (h : Below w.heap.size w W) => longI_any Q0 L _ W (I.below h))
  rw [if_pos hok] at HLO
  have HLM := hid (fun W (h : Below w.heap.size w W) => longN_any 15 (by decide) roots _ W (hr.below h))
  rw [if_pos hrk] at HLM
  have hl1 : ¬ (xp.size : Int) ≤ 70 := by omega
  have hl1' : (70 : Int) < (xp.size : Int) := by omega
  clear S htab I hok hr hrk
  go_enter Tryz.func4, Tryz.ntmps4
  go_wp2_with fail
  refine HIN.out.mono ?_
  rintro e w1 ⟨rfl, hb⟩
  have HB1 := hid (HB0.out.trans (hb.mono HB0.out.size))
  have HM1 := hid ((hb.block _ (lt_of_blk HM0.out)).trans HM0.out)
  clear hb
  go_wp2_with fail
  refine (HLO.out w1 HB1.out).mono ?_
  rintro e w2 ⟨rfl, hb⟩
  have HB2 := hid (HB1.out.trans (hb.mono HB1.out.size))
  have HM2 := hid ((hb.block _ (lt_of_blk HM1.out)).trans HM1.out)
  clear hb
  go_wp2_with fail
  refine (HLM.out w2 HB2.out).mono ?_
  rintro e w2' ⟨rfl, rfl⟩
  obtain ⟨p0, p1, pf⟩ := box2J HM2.out
  go_wp2_with fail
  go_ret
  exact ⟨rfl, HB2.out⟩
set_option maxRecDepth 100000 in
set_option maxHeartbeats 2000000 in
theorem un_long4 (Q0 : List Raw) (L : List Ent) (roots : List Bm) (x : Bm) (v u : Value) (A : Nat → Addr) (m : Int) (w : World) (S : Te w A m) (htab : Lib.TabIs Tryz.prog w powName .u64 Lib.pow10Tab) (I : Ixs w v Q0 L) (hr : MsAt w u roots) (hok : okI L = true) (hrk : okLN 15 roots = true) (hx1 : x.1.size ≤ 70) (hx2 : ¬ x.2.size ≤ 60) :
    Calls Tryz.prog 4 #[v, u, .agg #[.string x.1, .string x.2]] w fun e w' => e = .returned (.bool true) ∧ Below w.heap.size w w' := by
  obtain ⟨xp, xq⟩ := x
  simp only at hx1 hx2 ⊢
  obtain ⟨a0, c0, hv0, -⟩ := id I.es
  subst hv0
  obtain ⟨ra, rc, hu0, -⟩ := id hr
  subst hu0
  have HB0 := hid ((Below.refl w.heap.size w).alloc (Nat.le_refl _) (.cells #[.string xp, .string xq] 46))
  have HM0 := hid (heap_new w (.cells #[.string xp, .string xq] 46))
  have HIN := hid (upped_any A m _ (S.below HB0.out) (tab_below htab HB0.out))
  have HLO := hid (fun W (h : Below w.heap.size w W) => longI_any Q0 L _ W (I.below h))
  rw [if_pos hok] at HLO
  have HLM := hid (fun W (h : Below w.heap.size w W) => longN_any 15 (by decide) roots _ W (hr.below h))
  rw [if_pos hrk] at HLM
  have hl1 : (xp.size : Int) ≤ 70 := by omega
  have hl2 : ¬ (xq.size : Int) ≤ 60 := by omega
  have hl2' : (60 : Int) < (xq.size : Int) := by omega
  clear S htab I hok hr hrk
  go_enter Tryz.func4, Tryz.ntmps4
  go_wp2_with fail
  refine HIN.out.mono ?_
  rintro e w1 ⟨rfl, hb⟩
  have HB1 := hid (HB0.out.trans (hb.mono HB0.out.size))
  have HM1 := hid ((hb.block _ (lt_of_blk HM0.out)).trans HM0.out)
  clear hb
  go_wp2_with fail
  refine (HLO.out w1 HB1.out).mono ?_
  rintro e w2 ⟨rfl, hb⟩
  have HB2 := hid (HB1.out.trans (hb.mono HB1.out.size))
  have HM2 := hid ((hb.block _ (lt_of_blk HM1.out)).trans HM1.out)
  clear hb
  go_wp2_with fail
  refine (HLM.out w2 HB2.out).mono ?_
  rintro e w2' ⟨rfl, rfl⟩
  obtain ⟨p0, p1, pf⟩ := box2J HM2.out
  go_wp2_with fail
  go_ret
  exact ⟨rfl, HB2.out⟩
theorem upNews_any (Q0 : List Raw) (L : List Ent) (roots : List Bm) (x : Bm) (v u : Value) (A : Nat → Addr) (m : Int) (w : World) (S : Te w A m) (htab : Lib.TabIs Tryz.prog w powName .u64 Lib.pow10Tab) (I : Ixs w v Q0 L) (em : EmI Q0 L) (hr : MsAt w u roots) (her : Em u roots) :
    Calls Tryz.prog 4 #[v, u, .agg #[.string x.1, .string x.2]] w fun e w' => e = .returned (.bool true) ∧ Below w.heap.size w w' := by
  cases hok : okI L with
  | false => exact un_long1 Q0 L roots x v u A m w S htab I hr hok
  | true =>
    cases hrk : okLN 15 roots with
    | false => exact un_long2 Q0 L roots x v u A m w S htab I hr hok hrk
    | true =>
      by_cases hx1 : x.1.size ≤ 70
      · by_cases hx2 : x.2.size ≤ 60
        · exact un_main Q0 L roots x v u A m w S htab I em hr her hok hrk hx1 hx2
        · exact un_long4 Q0 L roots x v u A m w S htab I hr hok hrk hx1 hx2
      · exact un_long3 Q0 L roots x v u A m w S htab I hr hok hrk hx1
end Ve
end Go.Proofs.YtoaobngpdaidoaaGreatDoor

/-
  An index and a row of modules that a caller hands in, opened.
-/
namespace Go.Proofs.YtoaobngpdaidoaaGreatDoor
open Go.ChangeShapes Go.WideShapes Go.ChangeAt Go.RowKit Go.ChangeMaps Go.Joins
namespace Ve

theorem oCellsMod : Tryz.prog.cellsOf 46 = 2 := by kernel_rfl
theorem oCellsStr : Tryz.prog.cellsOf 9 = 1 := by kernel_rfl
theorem oCellsEnt : Tryz.prog.cellsOf 56 = 5 := by kernel_rfl
theorem oCellsMods : Tryz.prog.cellsOf 23 = 1 := by kernel_rfl
theorem oCellsSstr : Tryz.prog.cellsOf 54 = 1 := by kernel_rfl
theorem oCellsBool : Tryz.prog.cellsOf 4 = 1 := by kernel_rfl
/-- The bytes of a string; none of what is no string. -/
def strOf : Value → ByteArray
  | .string s => s
  | _ => ⟨#[]⟩
set_option maxRecDepth 100000 in
/-- A row of modules, opened. -/
theorem open_ms {H : Type} {enc : TypeId × Value → H} {w : World} {base fuel : Nat} {held : Bool} {v : Value} {x : DataW H × List MemPlace}
    (h : DataW.trod enc Tryz.prog w base (fun _ => true) held fuel 23 [v] = some x) : ∃ L, MsAt w v L ∧ Em v L := by
  rcases Go.Deep.open_slice_pairs Tryz.underlying23 Tryz.underlying46 oCellsMod rfl rfl oCellsStr oCellsStr h with ⟨hcs, _⟩ | ⟨a, len, cap, m, n, V0, V1, D0, D1, P0, P1, hcs, _, hl, _, hm, _, hx⟩
  · simp only [List.cons.injEq, and_true] at hcs
    subst hcs
    exact ⟨[], ⟨none, 0, rfl, Nat.le_refl _, fun h => absurd rfl h⟩, fun a c e _ => Or.inl e.symm⟩
  · simp only [List.cons.injEq, and_true] at hcs
    subst hcs
    simp only [if_true] at hm
    subst hm
    have hlen : ((List.range len).map fun i => (strOf (V0 i), strOf (V1 i))).length = len := by simp
    refine ⟨(List.range len).map fun i => (strOf (V0 i), strOf (V1 i)), ⟨some a, m, by rw [hlen], by rw [hlen]; exact hl, fun hne => ?_⟩, fun a' c e h0 => ?_⟩
    · have h0l : 0 < len := by rw [← hlen]; exact List.length_pos_iff.2 hne
      obtain ⟨b, off, spot⟩ := a
      have hspot : spot = none := by simpa [Addr.add] using World.cell?_spot (hx 0 (by omega)).1
      subst hspot
      refine ⟨b, off, rfl, fun j hj => ?_⟩
      have hj2 : j < len := by rw [← hlen]; exact hj
      obtain ⟨g0, g1, t0, t1⟩ := hx j (by omega)
      obtain ⟨s0, e0, _, _⟩ := DataW.trod_string Tryz.underlying9 t0
      obtain ⟨s1, e1, _, _⟩ := DataW.trod_string Tryz.underlying9 t1
      simp only [List.cons.injEq, and_true] at e0 e1
      rw [e0] at g0
      rw [e1] at g1
      simp only [List.getElem_map, List.getElem_range, e0, e1]
      rw [Addr.add_lit] at g0 g1
      exact ⟨g0, g1⟩
    · have hz : len = 0 := by rw [← hlen, h0]; rfl
      rw [hlen] at e
      subst hz
      right
      injection e with e1 e2 e3
      exact ⟨a, by rw [← e1]⟩
set_option maxRecDepth 100000 in
/-- A row of texts, opened. -/
theorem open_tx {H : Type} {enc : TypeId × Value → H} {w : World} {base fuel : Nat} {held : Bool} {v : Value} {x : DataW H × List MemPlace}
    (h : DataW.trod enc Tryz.prog w base (fun _ => true) held fuel 54 [v] = some x) : ∃ X, TxAt w v X ∧ EmT v X := by
  rcases open_strings Tryz.underlying54 Tryz.underlying9 oCellsStr h with ⟨hcs, _⟩ | ⟨a, len, cap, ss, hcs, _, hl, _, hm, _, hx, _⟩
  · simp only [List.cons.injEq, and_true] at hcs
    subst hcs
    exact ⟨[], ⟨none, 0, rfl, Nat.le_refl _, fun h => absurd rfl h⟩, fun a c e _ => Or.inl e.symm⟩
  · simp only [List.cons.injEq, and_true] at hcs
    subst hcs
    simp only [if_true] at hm
    have hlen : (ss.take len).length = len := by rw [List.length_take]; omega
    refine ⟨ss.take len, ⟨some a, cap, by rw [hlen], by rw [hlen]; exact hl, fun hne => ?_⟩, fun a' c e h0 => ?_⟩
    · have h0l : 0 < len := by rw [← hlen]; exact List.length_pos_iff.2 hne
      obtain ⟨b, off, spot⟩ := a
      have hspot : spot = none := by simpa [Addr.add] using World.cell?_spot (hx 0 (by omega))
      subst hspot
      refine ⟨b, off, rfl, fun j hj => ?_⟩
      have hj2 : j < len := by rw [← hlen]; exact hj
      have g := hx j (by omega)
      rw [Addr.add_lit, List.getD_eq_getElem?_getD, List.getElem?_eq_getElem (by omega)] at g
      rw [List.getElem_take]
      exact g
    · have hz : len = 0 := by rw [← hlen, h0]; rfl
      rw [hlen] at e
      subst hz
      right
      injection e with e1 e2 e3
      exact ⟨a, by rw [← e1]⟩
set_option maxRecDepth 100000 in
/-- An entry, opened. -/
theorem open_ent {H : Type} {enc : TypeId × Value → H} {w : World} {base fuel : Nat} {held : Bool} {cs : List Value} {x : DataW H × List MemPlace}
    (h : DataW.trod enc Tryz.prog w base (fun _ => true) held fuel 56 cs = some x) : ∃ (r : Raw) (e : Ent), cs = rowR r ∧ slR r ∧ RawOk w r e ∧ Em r.2.1 e.2.1 ∧ EmT r.2.2.1 e.2.2.1 := by
  obtain ⟨y0, y1, y2, y3, n, _, hl, h0, h1, h2, h3⟩ := trod_struct4 Tryz.underlying56 h
  rw [oCellsEnt] at hl
  match cs, hl with
  | [c0, c1, c2, c3, c4], _ =>
    simp only [oCellsMod, oCellsMods, oCellsSstr, oCellsBool, List.drop, List.take] at h0 h1 h2 h3
    obtain ⟨z0, z1, n2, _, _, k0, k1⟩ := trod_struct2 Tryz.underlying46 h0
    simp only [oCellsStr, List.drop, List.take] at k0 k1
    obtain ⟨s0, e0, _, _⟩ := DataW.trod_string Tryz.underlying9 k0
    obtain ⟨s1, e1, _, _⟩ := DataW.trod_string Tryz.underlying9 k1
    obtain ⟨R, hR, hER⟩ := open_ms h1
    obtain ⟨X, hX, hEX⟩ := open_tx h2
    obtain ⟨b, e4, _⟩ := DataW.trod_bool Tryz.underlying4 h3
    simp only [List.cons.injEq, and_true] at e0 e1 e4
    subst e0 e1 e4
    refine ⟨((s0, s1), c2, c3, b), ((s0, s1), R, X, b), rfl, ⟨?_, ?_⟩, ⟨rfl, hR, hX, rfl⟩, hER, hEX⟩
    · obtain ⟨a, c, e, _⟩ := hR; exact ⟨_, _, _, e⟩
    · obtain ⟨a, c, e, _⟩ := hX; exact ⟨_, _, _, e⟩
set_option maxRecDepth 100000 in
/-- An index, opened. -/
theorem open_ix {H : Type} {enc : TypeId × Value → H} {w : World} {base fuel : Nat} {held : Bool} {v : Value} {x : DataW H × List MemPlace}
    (h : DataW.trod enc Tryz.prog w base (fun _ => true) held fuel 22 [v] = some x) : ∃ Q L, Ixs w v Q L ∧ EmI Q L := by
  rcases Go.Deep.open_slice Tryz.underlying22 h with ⟨hcs, _⟩ | ⟨a, len, cap, m, n, D, Pl, hcs, _, hl, _, hm, _, hx⟩
  · simp only [List.cons.injEq, and_true] at hcs
    subst hcs
    exact ⟨[], [], ⟨⟨none, 0, rfl, Nat.le_refl _, fun r hr => (by cases hr), fun h => absurd rfl h⟩, rfl, fun j h1 => absurd h1 (Nat.not_lt_zero _)⟩, fun j h1 => absurd h1 (Nat.not_lt_zero _)⟩
  · simp only [List.cons.injEq, and_true] at hcs
    subst hcs
    simp only [if_true] at hm
    subst hm
    have each : ∀ i, i < len → ∃ q : Raw × Ent, (∀ c (hc : c < 5), w.cell? (a.add (i * 5 + c)) = (rowR q.1)[c]?) ∧ slR q.1 ∧ RawOk w q.1 q.2 ∧ Em q.1.2.1 q.2.2.1 ∧ EmT q.1.2.2.1 q.2.2.2.1 := fun i hi => by
      obtain ⟨cs', h1, h2⟩ := hx i (by omega)
      obtain ⟨r, e, hcs, k1, k2, k3, k4⟩ := open_ent h2
      rw [oCellsEnt] at h1
      obtain ⟨_, hlen, hcell⟩ := World.cells?_some h1
      refine ⟨(r, e), fun c hc => ?_, k1, k2, k3, k4⟩
      have := hcell c (by omega)
      rw [Go.Deep.add_add] at this
      rw [this, hcs]
    obtain ⟨q, hq⟩ := Go.Deep.choose_lt each
    have hlq : ((List.range len).map fun i => (q i).1).length = len := by simp
    have hll : ((List.range len).map fun i => (q i).2).length = len := by simp
    refine ⟨(List.range len).map fun i => (q i).1, (List.range len).map fun i => (q i).2, ⟨⟨some a, m, by rw [hlq], by rw [hlq]; exact hl, fun r hr => ?_, fun hne => ?_⟩, by rw [hlq, hll], fun j h1 h2 => ?_⟩, fun j h1 h2 => ?_⟩
    · obtain ⟨i, hi, rfl⟩ := List.mem_map.1 hr
      exact (hq i (List.mem_range.1 hi)).2.1
    · have h0l : 0 < len := by rw [← hlq]; exact List.length_pos_iff.2 hne
      obtain ⟨b, off, spot⟩ := a
      have g0 := (hq 0 h0l).1 0 (by omega)
      have hspot : spot = none := by
        have : ∃ u, World.cell? w ((⟨b, off, spot⟩ : Addr).add (0 * 5 + 0)) = some u := ⟨_, g0⟩
        obtain ⟨u, hu⟩ := this
        simpa [Addr.add] using World.cell?_spot hu
      subst hspot
      refine ⟨b, off, rfl, fun j hj => ?_⟩
      have hj2 : j < len := by rw [← hlq]; exact hj
      have g := (hq j hj2).1
      simp only [List.getElem_map, List.getElem_range]
      refine ⟨?_, ?_, ?_, ?_, ?_⟩
      · have := g 0 (by omega); rw [Addr.add_lit] at this; exact this
      · have := g 1 (by omega); rw [Addr.add_lit] at this; exact this
      · have := g 2 (by omega); rw [Addr.add_lit] at this; exact this
      · have := g 3 (by omega); rw [Addr.add_lit] at this; exact this
      · have := g 4 (by omega); rw [Addr.add_lit] at this; exact this
    · have hj2 : j < len := by rw [← hlq]; exact h1
      simp only [List.getElem_map, List.getElem_range]
      exact (hq j hj2).2.2.1
    · have hj2 : j < len := by rw [← hlq]; exact h1
      simp only [List.getElem_map, List.getElem_range]
      exact (hq j hj2).2.2.2
end Ve
end Go.Proofs.YtoaobngpdaidoaaGreatDoor

/-
  The plain wrap with a condition, the world's shape kept; variables laid over a world.
-/
namespace Go.Proofs.YtoaobngpdaidoaaGreatDoor
open Go.ChangeShapes Go.WideShapes Go.ChangeAt Go.RowKit
namespace Ve

/-- The plain wrap with a condition, the world's shape kept. -/
theorem wrap_and_shaped {H : Type} {enc : TypeId × Value → H} {a : Assume} {C : Checked} {os : Go.Os} {f : FuncId} {fn : Func} {s : ChangeSpec} {conds : List PathCond} {apart fresh handsOn again : Bool} {X : World → Array Value → Prop}
    (hX : ∀ (w w' : World) (args : Array Value), w.heap = w'.heap → X w args → X w' args)
    (own : ownKnob C.prog.godebug = none) (started : os.Started) (noInit : C.prog.inits.idxOf? f = none) (hfn : C.prog.funcs[f]? = some fn)
    (witness : ∃ (w : World) (tape : Tape) (i : Input), w.os = os ∧ (w.forCall tape i).Shaped C.prog ∧ i.vars = [] ∧ Input.okWide C.prog (w.forCall tape i) .any w.heap.size f i ∧
      ((s.pre enc C.prog fn conds apart (w.forCall tape i).memory i.args ∧ X (w.forCall tape i).memory i.args) ∧ sizedMet enc C.prog fn (OpenSpec.ofChange s) apart (w.forCall tape i).memory i.args) ∧ a.holds C.prog (lone (Frame.enter C.prog f i.args .normal) [] (w.forCall tape i)))
    (contract : ∀ (W : World) (base : Nat) (args : Array Value) (ds gs : List (DataW H)) (before : List MemPlace),
      (∀ (j : Nat) t v, fn.params[j]? = some t → args[j]? = some v → Value.okWide C.prog W .any base t v) →
      DataW.Whole enc C.prog fn.params.toList s.vars apart W args.toList ds gs before → X W args → W.ShapedOpen C.prog →
      Calls C.prog f args W fun e W' => ∃ v, e = .returned v ∧ s.post enc C.prog fn apart fresh handsOn again W args v W') :
    ReturnsInHanded a C os f .any (fun w args => (s.pre enc C.prog fn conds apart w args ∧ X w args) ∧ sizedMet enc C.prog fn (OpenSpec.ofChange s) apart w args) (s.post enc C.prog fn apart fresh handsOn again) := by
  refine returnsInHanded_of_calls own started noInit witness ?_
  intro w tape i _ hsh _ hok hpre _
  obtain ⟨_, _, _, fn', hfn', _, _, _, _, hval⟩ := hok
  have e : fn' = fn := Option.some.inj (hfn'.symm.trans hfn)
  subst e
  obtain ⟨⟨⟨ds, gs, before, hw, _⟩, hx⟩, _⟩ := hpre
  have hw' := DataW.Whole.of_heap (w' := w.forCall tape i) (by rfl) hw
  refine (contract (w.forCall tape i) w.heap.size i.args ds gs before hval hw' (hX _ _ _ (by rfl) hx) hsh).mono fun e W' ⟨v, he, hp⟩ => ?_
  subst he
  exact ChangeSpec.post_blind hp

/-- All that is listed, laid over a world. -/
theorem laidMet_over {P : Program} {w0 : World} {laid : List (String × DataW Unit)} (args : Array Value)
    (hf : w0.layFits P laid [] = true) (hi : w0.layIfaces P laid (w0.layVars P laid) = true) :
    laidMet P laid ((w0.layVars P laid).forCall (fun _ _ => 0) ⟨#[], args, []⟩).memory := by
  have e1 : (laid.filter fun x => (laid.map (·.1)).contains x.1) = laid := List.filter_eq_self.2 fun x hx => List.contains_iff_mem.2 (List.mem_map.2 ⟨x, hx, rfl⟩)
  have e2 : (laid.filter fun x => !(laid.map (·.1)).contains x.1) = [] := List.filter_eq_nil_iff.2 fun x hx => by rw [List.contains_iff_mem.2 (List.mem_map.2 ⟨x, hx, rfl⟩)]; simp
  have h : laidMet P laid (w0.layVars P laid) := laidMet_layVars (w0 := w0) (laid.map (·.1)) [] (by rw [e1]) (by rw [e1]; exact hf) (by rw [e1]; exact hi) (by rw [e2]; exact LaidIn.none)
  exact h.of_heap (by simp [World.memory, World.forCall, Input.heap])
end Ve
end Go.Proofs.YtoaobngpdaidoaaGreatDoor

/-
  What a list of laid sentinels gives a walk, however long the list: each variable's cell, each pointee's block, and that no two are one.
-/
namespace Go.Proofs.YtoaobngpdaidoaaGreatDoor
namespace Er
open Go

theorem sens_rest {P : Program} {nm : String} {W : World} {ti tp te ts : TypeId} {ms : Array (String × TypeId)} {f : Field}
    (hi : P.underlying ti = some (.interface ms)) (hrow : ∀ u, P.typeName? 3 u = some nm → u = tp)
    (hp : P.underlying tp = some (.pointer te)) (he : P.underlying te = some (.struct #[f])) (hft : f.type = ts) (hfo : f.offset = 0) (hs : P.underlying ts = some .string) (hc : P.cellsOf te = 1) (hcs : P.cellsOf ts = 1) (rest : List (String × DataW Unit)) :
    ∀ (ns : List (String × Nat × List UInt8)) (ps : List MemPlace),
      DataW.LaidVars P W ((ns.map fun x => (x.1, DataW.iface nm (.ptr (.agg [.lit (.string x.2.2)])))) ++ rest) ps →
      (∀ x, x ∈ ns → P.globalNamed x.1 = some x.2.1 ∧ (P.globals[x.2.1]?).map (·.type) = some ti) →
      (∀ b off, MemPlace.cell b off ∈ ps → (∃ c t, W.heap[b]? = some (.cells c t (0, 0))) ∧ ∀ u v, W.cell? ⟨b, off, none⟩ = some (.iface u v) → Value.okWide P W .any 0 u v) →
      ∃ al : List Addr, al.length = ns.length ∧ (al.map fun a => MemPlace.cell a.block a.off).Sublist ps ∧
        ∀ (i : Nat) (x : String × Nat × List UInt8) (a : Addr), ns[i]? = some x → al[i]? = some a →
          W.cell? ⟨x.2.1, 0, none⟩ = some (.iface tp (.pointer (some a))) ∧ ∃ c t, W.heap[a.block]? = some (.cells c t (0, 0)) := by
  intro ns
  induction ns with
  | nil =>
    intro ps _ _ _
    exact ⟨[], rfl, List.nil_sublist _, fun i x a h => by simp at h⟩
  | cons n r ih =>
    intro ps hl hg hr
    obtain ⟨g, t, cs, fuel, p, q, hg0, ht0, hv0, hd0, hq, e0⟩ := hl
    obtain ⟨k1, k2⟩ := hg n (List.mem_cons_self)
    obtain rfl := Option.some.inj (k1.symm.trans hg0)
    obtain rfl := Option.some.inj (k2.symm.trans ht0)
    subst e0
    obtain ⟨l0⟩ := cs
    have ok0 : ∀ u v, l0 = [.iface u v] → Value.okWide P W .any 0 u v := fun u v e => by
      subst e
      exact (hr n.2.1 0 (by simp [MemPlace.row])).2 u v (by simpa using World.var?_cell hg0 hv0 0)
    obtain ⟨a0, s0, rfl, hc0, hs0, hz0, rfl⟩ := errorString_of_trod hi hrow hp he hft hfo hs hc hcs hd0 ok0
    obtain ⟨al, hlen, hsub, hall⟩ := ih q hq (fun x hx => hg x (List.mem_cons_of_mem _ hx)) (fun b off hm => hr b off (by simp [hm]))
    refine ⟨a0 :: al, by simp [hlen], ?_, ?_⟩
    · simp only [List.map_cons, MemPlace.row, List.range_one, List.map_nil, Nat.add_zero]
      exact List.Sublist.cons _ (List.Sublist.cons_cons _ hsub)
    · intro i x a hx ha
      cases i with
      | zero =>
        simp only [List.getElem?_cons_zero, Option.some.injEq] at hx ha
        subst hx; subst ha
        exact ⟨by simpa using World.var?_cell hg0 hv0 0, (hr a0.block a0.off (by simp [MemPlace.row])).1⟩
      | succ i =>
        simp only [List.getElem?_cons_succ] at hx ha
        exact hall i x a hx ha

theorem unlike {al : List Addr} {ps : List MemPlace} (hs : (al.map fun a => MemPlace.cell a.block a.off).Sublist ps) (hn : ps.Nodup) {i j : Nat} (hi : i < al.length) (hj : j < al.length) (hij : i ≠ j) : al[i] ≠ al[j] := by
  have h1 : (al.map fun a => MemPlace.cell a.block a.off).Nodup := hs.nodup hn
  intro e
  rw [List.Nodup, List.pairwise_iff_getElem] at h1
  rcases Nat.lt_or_gt_of_ne hij with h | h
  · exact h1 i j (by simpa using hi) (by simpa using hj) h (by simp [e])
  · exact h1 j i (by simpa using hj) (by simpa using hi) h (by simp [e])
end Er
end Go.Proofs.YtoaobngpdaidoaaGreatDoor
