
import Derived.Test.YtjndahjfodnllaaGreatDoorPw3
import Derived.Test.YtjndahjfodnllaaGreatDoorPw2
import Derived.Test.YtjndahjfodnllaaGreatDoorPw4
import Derived.Test.YtjndahjfodnllaaGreatDoorPw1
import Derived.Test.YtjndahjfodnllaaGreatDoorPw6
import Derived.Test.YtjndahjfodnllaaGreatDoorPw5
import Derived.Deep.RegionHeldLaw
import Derived.Deep.AppendLies
import Derived.Deep.RegionHeld
import Derived.Test.YtjndahjfodnllaaGreatDoorCode
import Derived.Laws.MakeOwn
namespace Go.Proofs.YtjndahjfodnllaaGreatDoor
open Go.RowKit
namespace Ve
def ofP (t : ByteArray) (L : List Raw) : List Raw := L.filter (isP t)
theorem ofP_len (t : ByteArray) (L : List Raw) : (ofP t L).length ≤ L.length := List.length_filter_le _ _
theorem bestR_sub {L : List Raw} {r : Raw} (h : r ∈ bestR L) : r ∈ L := by
  unfold bestR at h
  split at h
  · exact (List.mem_filter.1 (List.mem_filter.1 h).1).1
  · split at h
    · exact (List.mem_filter.1 h).1
    · exact h
theorem bestR_len (L : List Raw) : (bestR L).length ≤ L.length := by
  unfold bestR
  split
  · exact Nat.le_trans (List.length_filter_le _ _) (List.length_filter_le _ _)
  · split
    · exact List.length_filter_le _ _
    · exact Nat.le_refl _
def lastT (X : List ByteArray) : ByteArray := X.getLast?.getD ⟨#[]⟩
theorem lastT_get {X : List ByteArray} (h : 0 < X.length) : lastT X = X[X.length - 1] := by
  unfold lastT
  rw [List.getLast?_eq_getElem?, List.getElem?_eq_getElem (by omega)]; rfl
theorem own_max {W : World} {B n k : Nat} {e : TypeId} {v : Value} {xs : List Value} (h : W.ownsRow B e k v n xs) : n ≤ maxLen := by
  obtain ⟨_, ⟨hv, hn0⟩ | ⟨g, cap, cur, hv, hg, hblk, hcap, hcm, hcs, hct⟩⟩ := h
  · rw [hn0]; exact Nat.zero_le _
  · exact Nat.le_trans hcap hcm
set_option maxRecDepth 100000 in
set_option maxHeartbeats 2000000 in
theorem ibest_any (L : List Raw) (t : ByteArray) (v : Value) (aT aB : Addr) (m : Int) (w : World) (hL : L.length ≤ 1000) (hz : ∀ r, r ∈ L → r.1.1.size ≤ 80 ∧ r.1.2.size ≤ 80) (S : Vs w aT aB m) (htab : Lib.TabIs Tryz.prog w powName .u64 Lib.pow10Tab) (hv : EsAt w v L) :
    Calls Tryz.prog 48 #[v, .string t] w fun e w' => ∃ u, e = .returned u ∧ ∃ X, w'.ownsRow w.heap.size 9 1 u X.length (X.map Value.string) ∧ Kept (verL (bestR (ofP t L))) (verL (bestR (ofP t L))).length X ∧ Below w.heap.size w w' := by
  obtain ⟨a, c, rfl, _⟩ := id hv
  have hsh : shortR L := fun r hr => ⟨by have := (hz r hr).1; omega, by have := (hz r hr).2; omega⟩
  have HP := hid (ofPath_any L t _ aT aB m w (by omega) hsh S hv)
  have HSH := hid (hsh.filter (isP t))
  have HZ := hid hz
  have HS := hid S
  have HT := hid htab
  have hll := ofP_len t L
  have hlb := bestR_len (ofP t L)
  clear hv S htab hz hsh
  go_enter Tryz.func48, Tryz.ntmps48
  go_wp2_with fail
  refine HP.out.mono ?_
  rintro e w1 ⟨v1, rfl, he, hb⟩
  have HBE := hid (best_any (ofP t L) v1 aT aB m w1 (by omega) HSH.out (HS.out.below hb) he)
  have HB := hid hb
  obtain ⟨a1, c1, rfl, _⟩ := he
  clear hb
  go_wp2_with fail
  refine HBE.out.mono ?_
  rintro e w2 ⟨v2, rfl, he, hb⟩
  have HB2 := hid (HB.out.trans (hb.mono HB.out.size))
  have HV := hid (versions_any (bestR (ofP t L)) v2 aT aB m w2 (by omega) (fun r hr => (HZ.out r (List.mem_filter.1 (bestR_sub hr)).1).2) (HS.out.below HB2.out) (tab_below HT.out HB2.out) he)
  obtain ⟨a2, c2, rfl, _⟩ := he
  clear hb
  go_wp2_with fail
  refine HV.out.mono ?_
  rintro e w3 ⟨u, rfl, X, h1, h2, h3⟩
  obtain ⟨ua, uc, hu⟩ := own_slN h1
  subst hu
  have HR := hid (⟨own_baseN h1 HB2.out.size, h2, HB2.out.trans (h3.mono HB2.out.size)⟩ : _ ∧ _ ∧ Below w.heap.size w w3)
  clear h1 h2 h3
  go_wp2_with fail
  go_ret
  exact ⟨_, rfl, X, HR.out⟩
set_option maxRecDepth 100000 in
set_option maxHeartbeats 4000000 in
theorem latest_any (L : List Raw) (t : ByteArray) (v : Value) (aT aB : Addr) (m : Int) (w : World) (hL : L.length ≤ 1000) (hz : ∀ r, r ∈ L → r.1.1.size ≤ 80 ∧ r.1.2.size ≤ 80) (S : Vs w aT aB m) (htab : Lib.TabIs Tryz.prog w powName .u64 Lib.pow10Tab) (hv : EsAt w v L) :
    Calls Tryz.prog 23 #[v, .string t] w fun e w' => ∃ X, e = .returned (.string (lastT X)) ∧ Kept (verL (bestR (ofP t L))) (verL (bestR (ofP t L))).length X ∧ Below w.heap.size w w' := by
  obtain ⟨a, c, rfl, _⟩ := id hv
  have HP := hid (ibest_any L t _ aT aB m w hL hz S htab hv)
  clear hv S htab hz
  go_enter Tryz.func23, Tryz.ntmps23
  go_wp2_with fail
  refine HP.out.mono ?_
  rintro e w3 ⟨u, rfl, X, h1, h2, h3⟩
  obtain ⟨ua, uc, hu, _, hcell⟩ := own_tx h1
  subst hu
  have HR := hid (⟨h2, h3⟩ : _ ∧ Below w.heap.size w w3)
  have HCC := hid hcell
  have hmx := own_max h1
  clear h1 h2 h3 hcell
  by_cases hX : 0 < X.length
  · obtain ⟨b, o, rfl, hcc⟩ := HCC.out (by intro h; rw [h] at hX; simp at hX)
    have hlast := hcc (X.length - 1) (by omega)
    have HLT := hid (lastT_get hX)
    rw [← HLT.out] at hlast
    have hne : ((X.length : Int) == 0) = false := by rw [beq_eq_false_iff_ne]; omega
    have hx1 : (X.length : Int) - 1 = ((X.length - 1 : Nat) : Int) := by omega
    have hx2 : ((X.length - 1 : Nat) : Int) < (X.length : Int) := by omega
    have hw64 : wrap64 ((X.length - 1 : Nat) : Int) = ((X.length - 1 : Nat) : Int) := IntWalk.wrap64_in _ (by unfold maxLen at hmx; omega)
    have htn : ((X.length - 1 : Nat) : Int).toNat = X.length - 1 := Int.toNat_natCast _
    clear hcc
    go_wp2_with fail
    go_ret
    exact ⟨X, rfl, HR.out⟩
  · have hx0 : X = [] := List.eq_nil_of_length_eq_zero (by omega)
    subst hx0
    go_wp2_with fail
    go_ret
    exact ⟨[], rfl, HR.out⟩
end Ve
end Go.Proofs.YtjndahjfodnllaaGreatDoor


namespace Go.Proofs.YtjndahjfodnllaaGreatDoor
open Go.RowKit
namespace Ve
theorem cut_mem (d : Array (List UInt8)) (t : List UInt8) : ∀ m, t ∈ Lib.compactUpTo d m ↔ ∃ j, j < m ∧ d[j]! = t
  | 0 => by simp [Lib.compactUpTo]
  | m + 1 => by
    rw [Lib.compactUpTo_succ, List.mem_append, cut_mem d t m]
    constructor
    · rintro (⟨j, hj, e⟩ | h)
      · exact ⟨j, by omega, e⟩
      · split at h
        · exact ⟨m, by omega, (by simpa using h : t = d[m]!).symm⟩
        · simp at h
    · rintro ⟨j, hj, e⟩
      by_cases hjm : j < m
      · exact Or.inl ⟨j, hjm, e⟩
      · have : j = m := by omega
        subst this
        cases hk : Lib.keeps d j
        · left
          have : j ≠ 0 ∧ d[j]! = d[j - 1]! := by
            have h2 : decide (j = 0 ∨ d[j]! ≠ d[j - 1]!) = false := hk
            have h3 := of_decide_eq_false h2
            exact ⟨fun h => h3 (Or.inl h), by
              by_cases h4 : d[j]! = d[j - 1]!
              · exact h4
              · exact absurd (Or.inr h4) h3⟩
          exact ⟨j - 1, by omega, this.2 ▸ e⟩
        · right; simp [e]
theorem le_anti {a b : List UInt8} (h1 : a ≤ b) (h2 : b ≤ a) : a = b := List.le_antisymm h1 h2
theorem cut_nodup (d : Array (List UInt8)) (hs : ∀ i j, i < j → j < d.size → d[i]! ≤ d[j]!) : ∀ m, m ≤ d.size → (Lib.compactUpTo d m).Nodup
  | 0, _ => by simp [Lib.compactUpTo]
  | m + 1, hm => by
    rw [Lib.compactUpTo_succ, List.nodup_append]
    refine ⟨cut_nodup d hs m (by omega), by split <;> simp, ?_⟩
    intro a ha b hb hab
    subst hab
    split at hb
    · rename_i hk
      have hb : a = d[m]! := by simpa using hb
      obtain ⟨j, hj, e⟩ := (cut_mem d a m).1 ha
      have h2 : decide (m = 0 ∨ d[m]! ≠ d[m - 1]!) = true := hk
      rcases of_decide_eq_true h2 with h3 | h3
      · omega
      · apply h3
        by_cases hj1 : j = m - 1
        · rw [← hb, ← e, hj1]
        · have q1 := hs j (m - 1) (by omega) (by omega)
          have q2 := hs (m - 1) m (by omega) (by omega)
          rw [e] at q1
          rw [← hb] at q2 ⊢
          exact le_anti q1 q2
    · simp at hb
theorem srtB_mem {Z : List (List UInt8)} {t : List UInt8} : t ∈ srtB Z ↔ t ∈ Z := by unfold srtB; exact List.mem_mergeSort
theorem srtB_le (Z : List (List UInt8)) : (srtB Z).Pairwise fun x y => x ≤ y := by
  unfold srtB
  have := List.pairwise_mergeSort (le := fun x y : List UInt8 => decide (x ≤ y)) (fun a b c h1 h2 => decide_eq_true (List.le_trans (of_decide_eq_true h1) (of_decide_eq_true h2)))
    (fun a b => by
      rcases List.le_total a b with h | h
      · simp [h]
      · simp [h]) Z
  exact this.imp fun h => of_decide_eq_true h
theorem risB_mem {Z : List (List UInt8)} {t : List UInt8} : t ∈ risB Z ↔ t ∈ Z := by
  unfold risB Lib.compact
  rw [cut_mem, ← srtB_mem (Z := Z)]
  constructor
  · rintro ⟨j, hj, e⟩
    rw [← e, getElem!_pos _ j (by simpa using hj)]
    simp
  · intro h
    obtain ⟨j, hj, e⟩ := List.getElem_of_mem h
    exact ⟨j, hj, by rw [getElem!_pos _ j (by simpa using hj)]; simpa using e⟩
theorem risB_nodup (Z : List (List UInt8)) : (risB Z).Nodup := by
  unfold risB Lib.compact
  refine cut_nodup _ (fun i j hij hj => ?_) _ (by simp)
  have hj' : j < (srtB Z).length := by simpa using hj
  rw [getElem!_pos _ i (by simp; omega), getElem!_pos _ j (by simpa using hj')]
  simpa using List.pairwise_iff_getElem.1 (srtB_le Z) i j (by omega) hj' hij
theorem Good.ofP {Q : List Raw} (g : Good Q) (t : ByteArray) : ofP t Q = Q.filter fun r => decide (r.1.1 = t) := by
  unfold Ve.ofP
  refine List.filter_congr fun r hr => ?_
  unfold isP
  rw [decide_eq_true (g.ver r hr), Bool.and_true]
theorem Good.ofP_mem {Q : List Raw} (g : Good Q) {t : ByteArray} {r : Raw} : r ∈ Ve.ofP t Q ↔ r ∈ Q ∧ r.1.1 = t := by
  rw [g.ofP t, List.mem_filter, decide_eq_true_iff]
theorem kept_mem {L X : List ByteArray} (hK : Kept L L.length X) (hv : ∀ x, x ∈ L → verErr x.data.toList = 0) (t : List UInt8) : t ∈ bl X ↔ t ∈ bl L := by
  have := hK.2 t
  rw [List.take_length] at this
  rw [this]
  constructor
  · exact fun h => h.1
  · intro h
    refine ⟨h, ?_⟩
    obtain ⟨x, hx, rfl⟩ := List.mem_map.1 h
    exact hv x hx
theorem verL_ok {Q R : List Raw} (g : Good Q) (hR : ∀ r, r ∈ R → r ∈ Q) : ∀ x, x ∈ verL R → verErr x.data.toList = 0 := fun x hx => by
  obtain ⟨r, hr, rfl⟩ := List.mem_map.1 hx
  exact g.ver r (hR r hr)
theorem ofP_sub {Q : List Raw} {t : ByteArray} : ∀ r, r ∈ ofP t Q → r ∈ Q := fun _ hr => (List.mem_filter.1 hr).1
theorem kept_has {Q R : List Raw} (g : Good Q) (hR : ∀ r, r ∈ R → r ∈ Q) {X : List ByteArray} (hK : Kept (verL R) (verL R).length X) {x : ByteArray} (hx : x ∈ X) : ∃ r, r ∈ R ∧ r.1.2 = x := by
  have h1 : x.data.toList ∈ bl X := List.mem_map.2 ⟨x, hx, rfl⟩
  obtain ⟨y, hy, e⟩ := List.mem_map.1 ((kept_mem hK (verL_ok g hR) _).1 h1)
  obtain ⟨r, hr, rfl⟩ := List.mem_map.1 hy
  exact ⟨r, hr, str_ext e⟩
theorem kept_in {Q R : List Raw} (g : Good Q) (hR : ∀ r, r ∈ R → r ∈ Q) {X : List ByteArray} (hK : Kept (verL R) (verL R).length X) {r : Raw} (hr : r ∈ R) : r.1.2 ∈ X := by
  have h1 : r.1.2.data.toList ∈ bl (verL R) := List.mem_map.2 ⟨r.1.2, List.mem_map.2 ⟨r, hr, rfl⟩, rfl⟩
  obtain ⟨y, hy, e⟩ := List.mem_map.1 ((kept_mem hK (verL_ok g hR) _).2 h1)
  rw [← str_ext e]; exact hy
theorem bestR_ne {L : List Raw} (h : L ≠ []) : bestR L ≠ [] := by
  unfold bestR
  split
  · rename_i h1; intro e; rw [e] at h1; simp at h1
  · split
    · rename_i h1; intro e; rw [e] at h1; simp at h1
    · exact h
theorem kept_last {Q R : List Raw} (g : Good Q) (hR : ∀ r, r ∈ R → r ∈ Q) (hne : R ≠ []) {X : List ByteArray} (hK : Kept (verL R) (verL R).length X) :
    (∃ r, r ∈ R ∧ r.1.2 = lastT X) ∧ ∀ s, s ∈ R → ¬ ordV (lastT X).data.toList s.1.2.data.toList < 0 := by
  have hX : 0 < X.length := by
    obtain ⟨r, hr⟩ := List.exists_mem_of_ne_nil R hne
    exact List.length_pos_of_mem (kept_in g hR hK hr)
  have hl := lastT_get hX
  refine ⟨?_, fun s hs h => ?_⟩
  · rw [hl]; exact kept_has g hR hK (List.getElem_mem _)
  · have hin := kept_in g hR hK hs
    obtain ⟨j, hj, e⟩ := List.getElem_of_mem hin
    have hr := hK.1
    unfold rises at hr
    have hbl : (bl X).length = X.length := bl_len X
    rw [hl, ← e] at h
    by_cases hjl : j = X.length - 1
    · subst hjl; exact ordV_irr h h
    · have h2 := List.pairwise_iff_getElem.1 hr j (X.length - 1) (by omega) (by omega) (by omega)
      have g1 : (bl X)[j]'(by omega) = X[j].data.toList := by simp [bl]
      have g2 : (bl X)[X.length - 1]'(by omega) = (X[X.length - 1]'(by omega)).data.toList := by simp [bl]
      rw [g1, g2] at h2
      exact ordV_irr h h2
end Ve
end Go.Proofs.YtjndahjfodnllaaGreatDoor


namespace Go.Proofs.YtjndahjfodnllaaGreatDoor
open Go.RowKit Go.Maps
namespace Ve
theorem pw_ext {α : Type} {r : α → α → Prop} (irr : ∀ a, ¬ r a a) (asy : ∀ a b, r a b → ¬ r b a) : ∀ {E F : List α}, E.Pairwise r → F.Pairwise r → (∀ m, m ∈ E ↔ m ∈ F) → E = F
  | [], [], _, _, _ => rfl
  | [], f :: F, _, _, h => by have := (h f).2 (by simp); cases this
  | e :: E, [], _, _, h => by have := (h e).1 (by simp); cases this
  | e :: E, f :: F, hE, hF, h => by
    obtain ⟨hE1, hE2⟩ := List.pairwise_cons.1 hE
    obtain ⟨hF1, hF2⟩ := List.pairwise_cons.1 hF
    have hef : e = f := by
      rcases List.mem_cons.1 ((h e).1 (by simp)) with a | a
      · exact a
      · rcases List.mem_cons.1 ((h f).2 (by simp)) with b | b
        · exact b.symm
        · exact absurd (hE1 f b) (asy _ _ (hF1 e a))
    subst hef
    have : E = F := pw_ext irr asy hE2 hF2 fun m => by
      constructor
      · intro hm
        rcases List.mem_cons.1 ((h m).1 (List.mem_cons_of_mem _ hm)) with a | a
        · subst a; exact absurd (hE1 m hm) (irr _)
        · exact a
      · intro hm
        rcases List.mem_cons.1 ((h m).2 (List.mem_cons_of_mem _ hm)) with a | a
        · subst a; exact absurd (hF1 m hm) (irr _)
        · exact a
    rw [this]
theorem kept_one {L : List ByteArray} {n : Nat} {X Y : List ByteArray} (hX : Kept L n X) (hY : Kept L n Y) : X = Y := by
  have h : bl X = bl Y := pw_ext (r := fun s t => ordV s t < 0) (fun a h => ordV_irr h h) (fun a b h => ordV_irr h) hX.1 hY.1 fun t => by rw [hX.2, hY.2]
  exact (List.map_inj_right (fun x y e => str_ext e)).1 h
end Ve
end Go.Proofs.YtjndahjfodnllaaGreatDoor


namespace Go.Proofs.YtjndahjfodnllaaGreatDoor
open Go.RowKit Go.Maps
namespace Ve
abbrev KeptT (Q : List Raw) (t : ByteArray) (X : List ByteArray) : Prop := Kept (verL (bestR (ofP t Q))) (verL (bestR (ofP t Q))).length X
open Classical in
noncomputable def latV (Q : List Raw) (t : ByteArray) : ByteArray := if h : ∃ X, KeptT Q t X then lastT h.choose else ⟨#[]⟩
theorem latV_of {Q : List Raw} {t : ByteArray} {X : List ByteArray} (h : KeptT Q t X) : lastT X = latV Q t := by
  have he : ∃ X, KeptT Q t X := ⟨X, h⟩
  unfold latV
  rw [dif_pos he, kept_one h he.choose_spec]
theorem lat_in {w : World} {v : Value} {Q : List Raw} {L : List Ent} {t : ByteArray} {X : List ByteArray} (I : Ixs w v Q L) (hc : (chk Q L).1 = 0) (ht : ∃ m, m ∈ univ L ∧ m.1 = t) (hK : KeptT Q t X) : (t, latV Q t) ∈ univ L := by
  have g := good_of I hc
  obtain ⟨m, hm, e⟩ := ht
  rw [← univ_eq I] at hm
  obtain ⟨r0, hr0, rfl⟩ := List.mem_map.1 hm
  have hne : ofP t Q ≠ [] := List.ne_nil_of_mem (g.ofP_mem.2 ⟨hr0, e⟩)
  have hsub : ∀ r, r ∈ bestR (ofP t Q) → r ∈ Q := fun r hr => ofP_sub r (bestR_sub hr)
  obtain ⟨⟨r, hr, er⟩, -⟩ := kept_last g hsub (bestR_ne hne) hK
  have hrq := g.ofP_mem.1 (bestR_sub hr)
  rw [← univ_eq I, ← latV_of hK]
  exact List.mem_map.2 ⟨r, hrq.1, Prod.ext hrq.2 er⟩
end Ve
end Go.Proofs.YtjndahjfodnllaaGreatDoor


namespace Go.Proofs.YtjndahjfodnllaaGreatDoor
open Go.RowKit
namespace Ve
noncomputable def whH (Q : List Raw) (L : List Ent) (p t : ByteArray) : Bool := inB p (pkOf Q L (t, latV Q t))
noncomputable def whN (Q : List Raw) (L : List Ent) (p : ByteArray) (X : List ByteArray) (n : Nat) : List Bm := (X.filter fun t => decide (t.size = n) && whH Q L p t).map fun t => (t, latV Q t)
noncomputable def whD (Q : List Raw) (L : List Ent) (p : ByteArray) (X : List ByteArray) : Nat → List Bm
  | 0 => []
  | n + 1 => whN Q L p X (n + 1) ++ whD Q L p X n
noncomputable def whX (Q : List Raw) (L : List Ent) (p : ByteArray) : List Bm := if (chk Q L).1 = 0 then whD Q L p (phX Q) 100 else []
theorem whN_mem {Q : List Raw} {L : List Ent} {p : ByteArray} {X : List ByteArray} {n : Nat} {m : Bm} : m ∈ whN Q L p X n ↔ m.1 ∈ X ∧ m.1.size = n ∧ whH Q L p m.1 = true ∧ m.2 = latV Q m.1 := by
  unfold whN
  rw [List.mem_map]
  constructor
  · rintro ⟨t, ht, rfl⟩
    obtain ⟨h1, h2⟩ := List.mem_filter.1 ht
    rw [Bool.and_eq_true, decide_eq_true_iff] at h2
    exact ⟨h1, h2.1, h2.2, rfl⟩
  · rintro ⟨h1, h2, h3, h4⟩
    refine ⟨m.1, List.mem_filter.2 ⟨h1, by rw [Bool.and_eq_true, decide_eq_true_iff]; exact ⟨h2, h3⟩⟩, ?_⟩
    rw [← h4]
theorem whD_mem {Q : List Raw} {L : List Ent} {p : ByteArray} {X : List ByteArray} {m : Bm} : ∀ {n : Nat}, m ∈ whD Q L p X n ↔ m.1 ∈ X ∧ (0 < m.1.size ∧ m.1.size ≤ n) ∧ whH Q L p m.1 = true ∧ m.2 = latV Q m.1
  | 0 => by
    unfold whD
    constructor
    · intro h; cases h
    · rintro ⟨_, h, _⟩; omega
  | n + 1 => by
    unfold whD
    rw [List.mem_append, whN_mem, whD_mem]
    constructor
    · rintro (⟨h1, h2, h3⟩ | ⟨h1, h2, h3⟩)
      · exact ⟨h1, by omega, h3⟩
      · exact ⟨h1, by omega, h3⟩
    · rintro ⟨h1, h2, h3⟩
      by_cases e : m.1.size = n + 1
      · exact Or.inl ⟨h1, e, h3⟩
      · exact Or.inr ⟨h1, by omega, h3⟩
theorem whD_down {Q : List Raw} {L : List Ent} {p : ByteArray} {X : List ByteArray} : ∀ n : Nat, (whD Q L p X n).Pairwise fun a b => b.1.size ≤ a.1.size
  | 0 => by unfold whD; exact List.Pairwise.nil
  | n + 1 => by
    unfold whD
    rw [List.pairwise_append]
    refine ⟨?_, whD_down n, fun a ha b hb => ?_⟩
    · refine List.pairwise_of_forall_mem_list fun a ha b hb => ?_
      have h1 := (whN_mem.1 ha).2.1
      have h2 := (whN_mem.1 hb).2.1
      omega
    · have h1 := (whN_mem.1 ha).2.1
      have h2 := (whD_mem.1 hb).2.1
      omega
end Ve
end Go.Proofs.YtjndahjfodnllaaGreatDoor


namespace Go.Proofs.YtjndahjfodnllaaGreatDoor
open Go.RowKit Go.Maps
namespace Ve
end Ve
end Go.Proofs.YtjndahjfodnllaaGreatDoor


namespace Go.Proofs.YtjndahjfodnllaaGreatDoor
open Go.RowKit Go.Maps
namespace Ve
theorem ordV_three {s t : List UInt8} (hs : verErr s = 0) (ht : verErr t = 0) : ordV s t < 0 ∨ s = t ∨ ordV t s < 0 := by
  rcases ordV_range s t with h | h | h
  · exact Or.inl (by omega)
  · exact Or.inr (Or.inl ((ordV_zero hs ht).1 h))
  · exact Or.inr (Or.inr (by rw [ordV_swap s t]; omega))
theorem sorted_ex : ∀ L : List ByteArray, (∀ x, x ∈ L → verErr x.data.toList = 0) → ∃ X : List ByteArray, rises (bl X) ∧ ∀ t, t ∈ bl X ↔ t ∈ bl L
  | [], _ => ⟨[], List.Pairwise.nil, fun t => Iff.rfl⟩
  | x :: L, h => by
    obtain ⟨X, h1, h2⟩ := sorted_ex L fun y hy => h y (List.mem_cons_of_mem _ hy)
    have hx := h x (List.mem_cons_self ..)
    have hv : ∀ y, y ∈ X → verErr y.data.toList = 0 := fun y hy => by
      have := (h2 y.data.toList).1 (List.mem_map.2 ⟨y, hy, rfl⟩)
      obtain ⟨z, hz, e⟩ := List.mem_map.1 this
      rw [← e]; exact h z (List.mem_cons_of_mem _ hz)
    let lo := X.filter fun y => decide (ordV y.data.toList x.data.toList < 0)
    let hi := X.filter fun y => decide (ordV x.data.toList y.data.toList < 0)
    have hr : X.Pairwise fun a b => ordV a.data.toList b.data.toList < 0 := by
      have := h1
      unfold rises bl at this
      exact List.pairwise_map.1 this
    refine ⟨lo ++ (x :: hi), ?_, fun t => ?_⟩
    · unfold rises bl
      rw [List.pairwise_map, List.pairwise_append]
      refine ⟨List.Pairwise.filter _ hr, List.pairwise_cons.2 ⟨fun b hb => of_decide_eq_true (List.mem_filter.1 hb).2, List.Pairwise.filter _ hr⟩, fun a ha b hb => ?_⟩
      have ha2 := of_decide_eq_true (List.mem_filter.1 ha).2
      rcases List.mem_cons.1 hb with rfl | hb
      · exact ha2
      · exact ordV_trans ha2 (of_decide_eq_true (List.mem_filter.1 hb).2)
    · constructor
      · intro ht
        obtain ⟨y, hy, rfl⟩ := List.mem_map.1 ht
        rcases List.mem_append.1 hy with hy | hy
        · exact List.mem_cons_of_mem _ ((h2 _).1 (List.mem_map.2 ⟨y, (List.mem_filter.1 hy).1, rfl⟩))
        · rcases List.mem_cons.1 hy with rfl | hy
          · exact List.mem_cons_self ..
          · exact List.mem_cons_of_mem _ ((h2 _).1 (List.mem_map.2 ⟨y, (List.mem_filter.1 hy).1, rfl⟩))
      · intro ht
        rcases List.mem_cons.1 ht with rfl | ht
        · exact List.mem_map.2 ⟨x, List.mem_append_right _ (List.mem_cons_self ..), rfl⟩
        · obtain ⟨y, hy, rfl⟩ := List.mem_map.1 ((h2 t).2 ht)
          refine List.mem_map.2 ?_
          rcases ordV_three (hv y hy) hx with h3 | h3 | h3
          · exact ⟨y, List.mem_append_left _ (List.mem_filter.2 ⟨hy, decide_eq_true h3⟩), rfl⟩
          · exact ⟨x, List.mem_append_right _ (List.mem_cons_self ..), h3.symm⟩
          · exact ⟨y, List.mem_append_right _ (List.mem_cons_of_mem _ (List.mem_filter.2 ⟨hy, decide_eq_true h3⟩)), rfl⟩
theorem kept_ex {L : List ByteArray} (h : ∀ x, x ∈ L → verErr x.data.toList = 0) : ∃ X, Kept L L.length X := by
  obtain ⟨X, h1, h2⟩ := sorted_ex L h
  refine ⟨X, h1, fun t => ?_⟩
  rw [h2, List.take_length]
  refine ⟨fun ht => ⟨ht, ?_⟩, fun ht => ht.1⟩
  obtain ⟨y, hy, rfl⟩ := List.mem_map.1 ht
  exact h y hy
end Ve
end Go.Proofs.YtjndahjfodnllaaGreatDoor


namespace Go.Proofs.YtjndahjfodnllaaGreatDoor
open Go.RowKit Go.Maps
namespace Ve
end Ve
end Go.Proofs.YtjndahjfodnllaaGreatDoor


namespace Go.Proofs.YtjndahjfodnllaaGreatDoor
open Go.RowKit Go.Maps
namespace Ve
end Ve
end Go.Proofs.YtjndahjfodnllaaGreatDoor


namespace Go.Proofs.YtjndahjfodnllaaGreatDoor
open Go.RowKit Go.Maps
namespace Ve
end Ve
end Go.Proofs.YtjndahjfodnllaaGreatDoor


namespace Go.Proofs.YtjndahjfodnllaaGreatDoor
open Go.RowKit Go.Maps
namespace Ve
theorem keptT_ex {Q : List Raw} (g : Good Q) (t : ByteArray) : ∃ Y, KeptT Q t Y :=
  kept_ex (verL_ok g fun r hr => ofP_sub r (bestR_sub hr))
end Ve
end Go.Proofs.YtjndahjfodnllaaGreatDoor


namespace Go.Proofs.YtjndahjfodnllaaGreatDoor
open Go.RowKit Go.Maps
namespace Ve
end Ve
end Go.Proofs.YtjndahjfodnllaaGreatDoor


namespace Go.Proofs.YtjndahjfodnllaaGreatDoor
open Go.RowKit
namespace Ve
def shQ (Q : List Raw) : Prop := ∀ r, r ∈ Q → r.1.1.size ≤ 80 ∧ r.1.2.size ≤ 80
def StayK (T : World → Prop) : Prop := ∀ W W', T W → Below W.heap.size W W' → T W'
def OfC (T : World → Prop) : Prop := ∀ (Q : List Raw) (L : List Ent) (R : List Bm) (p : ByteArray) (v rv : Value) (A : Nat → Addr) (m : Int) (w : World), L.length ≤ 200 → (∀ e, e ∈ L → ShE e) → shQ Q → R.length ≤ 1000 → (hvL Q L R p).length ≤ 19 → p.size ≤ 1000 → Te w A m → T w → Ixs w v Q L → MsAt w rv R →
  Calls Tryz.prog 14 #[v, rv, .string p] w fun e w' => ∃ x, e = .returned (.tuple #[.agg #[.string (ofM Q L R p).1, .string (ofM Q L R p).2], x]) ∧ ErrAt w' A x (ofF Q L R p).1 (ofF Q L R p).2 ∧ Below w.heap.size w w'
def AllC (T : World → Prop) : Prop := ∀ (Q : List Raw) (L : List Ent) (R : List Bm) (v rv : Value) (A : Nat → Addr) (m : Int) (w : World), L.length ≤ 200 → (∀ e, e ∈ L → ShE e) → shQ Q → R.length ≤ 1000 → Te w A m → T w → Ixs w v Q L → MsAt w rv R →
  Calls Tryz.prog 12 #[v, rv] w fun e w' => ∃ u x, e = .returned (.tuple #[u, x]) ∧ TxAt w' u (alX Q L R) ∧ ErrAt w' A x (alF Q L R).1 (alF Q L R).2 ∧ Below w.heap.size w w'
def WhoC (T : World → Prop) : Prop := ∀ (Q : List Raw) (L : List Ent) (p : ByteArray) (v : Value) (A : Nat → Addr) (m : Int) (w : World), L.length ≤ 200 → (∀ e, e ∈ L → ShE e) → shQ Q → p.size ≤ 1000 → Te w A m → T w → Ixs w v Q L →
  Calls Tryz.prog 20 #[v, .string p] w fun e w' => ∃ u x, e = .returned (.tuple #[u, x]) ∧ MsAt w' u (whX Q L p) ∧ ErrAt w' A x (chk Q L).1 (chk Q L).2 ∧ Below w.heap.size w w'
end Ve
end Go.Proofs.YtjndahjfodnllaaGreatDoor


namespace Go.Proofs.YtjndahjfodnllaaGreatDoor
namespace Ve
structure Fr (req : Bm → List Bm) (U roots : List Bm) (n i : Nat) (F : List Nat) : Prop where
  ln : F.length = U.length
  so : ∀ j (h : j < U.length) (h' : j < F.length), F[j] ≠ 0 → Wn req roots F[j] U[j]
  bd : ∀ j (h' : j < F.length), F[j] ≤ n + 1
  lo : ∀ d j (h : j < U.length) (h' : j < F.length), d ≤ n → Wn req roots d U[j] → F[j] ≠ 0 ∧ F[j] ≤ d
  dn : ∀ j (h : j < U.length) (h' : j < F.length), j < i → F[j] = n → ∀ m, m ∈ req U[j] → ∃ a, ∃ h : a < U.length, ∃ h' : a < F.length, U[a] = m ∧ F[a] ≠ 0
theorem Fr.first {req : Bm → List Bm} {U roots : List Bm} {F : List Nat} (h : Fr req U roots 0 0 F) (hr : ∀ j (_ : j < U.length) (h' : j < F.length), U[j] ∈ roots → F[j] ≠ 0) : Fr req U roots 1 0 F := by
  refine ⟨h.ln, h.so, fun j hj => Nat.le_succ_of_le (h.bd j hj), fun d j hj hj' hd hw => ?_, fun _ _ _ hh => absurd hh (Nat.not_lt_zero _)⟩
  have hb := h.bd j hj'
  have hp := hw.pos
  have : d = 1 := by omega
  subst this
  cases hw with
  | root hm => exact ⟨hr j hj hj' hm, hb⟩
  | step hq _ => exact absurd hq.pos (by omega)
end Ve
end Go.Proofs.YtjndahjfodnllaaGreatDoor


namespace Go.Proofs.YtjndahjfodnllaaGreatDoor
open Go.RowKit Go.Maps
namespace Ve
end Ve
end Go.Proofs.YtjndahjfodnllaaGreatDoor


namespace Go.Proofs.YtjndahjfodnllaaGreatDoor
open Go.RowKit Go.Maps
namespace Ve
theorem idx_univ {w : World} {v : Value} {Q : List Raw} {L : List Ent} (I : Ixs w v Q L) {m : Bm} (hm : m ∈ univ L) : ∃ k, ∃ hk : k < (univ L).length, idxOf (isM m) Q = (k : Int) ∧ (univ L)[k] = m := by
  obtain ⟨k, hk⟩ := (found_iff I m).1 hm
  obtain ⟨h1, h2⟩ := idx_is hk
  have h3 : k < L.length := by rw [← I.ln]; exact h1
  refine ⟨k, by simpa [univ] using h3, hk, ?_⟩
  have := of_decide_eq_true h2
  simp only [univ, List.getElem_map]
  rw [← (I.ok k h1 h3).m]
  exact Prod.ext this.1 this.2
end Ve
end Go.Proofs.YtjndahjfodnllaaGreatDoor
