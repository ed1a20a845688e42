/-
  GtA FileR PkT Te LkP RtC PkE PkF PkP PkA PgA MvP
-/
import Derived.Test.YtnkgjddkdikikaaGreatDoorPq2
import Derived.Test.YtnkgjddkdikikaaGreatDoorPq26
import Derived.Test.YtnkgjddkdikikaaGreatDoorPq4
import Derived.Test.YtnkgjddkdikikaaGreatDoorPq7
import Derived.Test.YtnkgjddkdikikaaGreatDoorPq5
import Derived.Test.YtnkgjddkdikikaaGreatDoorPq10
import Derived.Test.YtnkgjddkdikikaaGreatDoorPq12
import Derived.Test.YtnkgjddkdikikaaGreatDoorPq13
import Derived.Test.YtnkgjddkdikikaaGreatDoorPq3
import Derived.Test.YtnkgjddkdikikaaGreatDoorPq21
import Derived.Test.YtnkgjddkdikikaaGreatDoorPq24
import Derived.Test.YtnkgjddkdikikaaGreatDoorPq23
import Derived.Test.YtnkgjddkdikikaaGreatDoorPq27
import Derived.Test.YtnkgjddkdikikaaGreatDoorPq30
import Derived.Test.YtnkgjddkdikikaaGreatDoorPq29
import Derived.Test.YtnkgjddkdikikaaGreatDoorPq31
import Derived.Test.YtnkgjddkdikikaaGreatDoorPq32
import Derived.Deep.AppendLies
import Derived.Deep.RegionHeldLaw
namespace Go.Proofs.YtnkgjddkdikikaaGreatDoor
namespace Ve
structure Mk (req : Bm → List Bm) (U roots : List Bm) (O : List Bool) : Prop where
  ln : O.length = U.length
  so : ∀ i (h : i < U.length) (h' : i < O.length), O[i] = true → Rch req roots U[i]
theorem Mk.none (req : Bm → List Bm) (U roots : List Bm) : Mk req U roots (List.replicate U.length false) :=
  ⟨by simp, fun i h h' e => by rw [List.getElem_replicate] at e; cases e⟩
theorem Mk.set {req : Bm → List Bm} {U roots : List Bm} {O : List Bool} (h : Mk req U roots O) {a : Nat} (ha : a < U.length) (hr : Rch req roots U[a]) : Mk req U roots (O.set a true) := by
  refine ⟨by rw [List.length_set]; exact h.ln, fun i hi hi' e => ?_⟩
  by_cases hia : a = i
  · subst hia; exact hr
  · rw [List.getElem_set_ne hia] at e
    exact h.so i hi (by rw [h.ln]; exact hi) e
def At1 (U : List Bm) (O : List Bool) (m : Bm) : Prop := ∃ a, ∃ h : a < U.length, ∃ h' : a < O.length, U[a] = m ∧ O[a] = true
theorem At1.set {U : List Bm} {O : List Bool} {m : Bm} (h : At1 U O m) (a : Nat) : At1 U (O.set a true) m := by
  obtain ⟨k, hk, hk', e1, e2⟩ := h
  refine ⟨k, hk, by rw [List.length_set]; exact hk', e1, ?_⟩
  by_cases hka : a = k
  · subst hka; rw [List.getElem_set_self]
  · rw [List.getElem_set_ne hka]; exact e2
structure Fr (req : Bm → List Bm) (U roots : List Bm) (n i : Nat) (F : List Nat) : Prop where
  ln : F.length = U.length
  so : ∀ j (h : j < U.length) (h' : j < F.length), F[j] ≠ 0 → Wn req roots F[j] U[j]
  bd : ∀ j (h' : j < F.length), F[j] ≤ n + 1
  lo : ∀ d j (h : j < U.length) (h' : j < F.length), d ≤ n → Wn req roots d U[j] → F[j] ≠ 0 ∧ F[j] ≤ d
  dn : ∀ j (h : j < U.length) (h' : j < F.length), j < i → F[j] = n → ∀ m, m ∈ req U[j] → ∃ a, ∃ h : a < U.length, ∃ h' : a < F.length, U[a] = m ∧ F[a] ≠ 0
theorem Fr.none (req : Bm → List Bm) (U roots : List Bm) : Fr req U roots 0 0 (List.replicate U.length 0) :=
  ⟨by simp, fun j _ _ e => by rw [List.getElem_replicate] at e; exact absurd rfl e, fun j _ => by rw [List.getElem_replicate]; omega, fun d j _ _ hd hw => absurd hw.pos (by omega), fun _ _ _ h => absurd h (Nat.not_lt_zero _)⟩
theorem Fr.set {req : Bm → List Bm} {U roots : List Bm} {n i : Nat} {F : List Nat} (h : Fr req U roots n i F) {a : Nat} (ha : a < U.length) (ha' : a < F.length) (e0 : F[a] = 0) (hw : Wn req roots (n + 1) U[a]) : Fr req U roots n i (F.set a (n + 1)) := by
  refine ⟨by rw [List.length_set]; exact h.ln, fun j hj hj' e => ?_, fun j hj' => ?_, fun d j hj hj' hd hwn => ?_, fun j hj hj' hji e m hm => ?_⟩
  · by_cases hja : a = j
    · subst hja; rw [List.getElem_set_self]; exact hw
    · rw [List.getElem_set_ne hja] at e ⊢
      exact h.so j hj _ e
  · by_cases hja : a = j
    · subst hja; rw [List.getElem_set_self]; exact Nat.le_refl _
    · rw [List.getElem_set_ne hja]; exact h.bd j _
  · have h1 := h.lo d j hj (by rw [h.ln]; exact hj) hd hwn
    by_cases hja : a = j
    · subst hja; exact absurd e0 h1.1
    · rw [List.getElem_set_ne hja]; exact h1
  · have hja : a ≠ j := fun hja => by subst hja; rw [List.getElem_set_self] at e; omega
    rw [List.getElem_set_ne hja] at e
    obtain ⟨t, ht, ht', e1, e2⟩ := h.dn j hj (by rw [h.ln]; exact hj) hji e m hm
    refine ⟨t, ht, by rw [List.length_set]; exact ht', e1, ?_⟩
    have hta : a ≠ t := fun hta => by subst hta; exact e2 e0
    rw [List.getElem_set_ne hta]; exact e2
theorem Fr.root {req : Bm → List Bm} {U roots : List Bm} {F : List Nat} (h : Fr req U roots 0 0 F) {a : Nat} (ha : a < U.length) (hr : U[a] ∈ roots) : Fr req U roots 0 0 (F.set a 1) := by
  have ha' : a < F.length := by rw [h.ln]; exact ha
  by_cases e0 : F[a] = 0
  · exact h.set ha ha' e0 (.root hr)
  · have e1 : F[a] = 1 := by have := h.bd a ha'; omega
    have : F.set a 1 = F := by rw [← e1]; exact List.set_getElem_self ha'
    rw [this]; exact h
theorem Fr.first {req : Bm → List Bm} {U roots : List Bm} {F : List Nat} (h : Fr req U roots 0 0 F) (hr : ∀ j (_ : j < U.length) (h' : j < F.length), U[j] ∈ roots → F[j] ≠ 0) : Fr req U roots 1 0 F := by
  refine ⟨h.ln, h.so, fun j hj => Nat.le_succ_of_le (h.bd j hj), fun d j hj hj' hd hw => ?_, fun _ _ _ hh => absurd hh (Nat.not_lt_zero _)⟩
  have hb := h.bd j hj'
  have hp := hw.pos
  have : d = 1 := by omega
  subst this
  cases hw with
  | root hm => exact ⟨hr j hj hj' hm, hb⟩
  | step hq _ => exact absurd hq.pos (by omega)
theorem Fr.next {req : Bm → List Bm} {U roots : List Bm} {n i : Nat} {F : List Nat} (h : Fr req U roots n i F) (hd : ∀ (hi : i < U.length) (hi' : i < F.length), F[i] = n → ∀ m, m ∈ req U[i] → ∃ a, ∃ h : a < U.length, ∃ h' : a < F.length, U[a] = m ∧ F[a] ≠ 0) : Fr req U roots n (i + 1) F :=
  ⟨h.ln, h.so, h.bd, h.lo, fun j hj hj' hji e m hm => by
    rcases Nat.lt_or_ge j i with h1 | h1
    · exact h.dn j hj hj' h1 e m hm
    · have : j = i := by omega
      subst this
      exact hd hj hj' e m hm⟩
end Ve
end Go.Proofs.YtnkgjddkdikikaaGreatDoor
namespace Go.Proofs.YtnkgjddkdikikaaGreatDoor
open Go.RowKit
namespace Ve
theorem lt_asymm {a b : ByteArray} (h : lt a b = true) : lt b a = false := by
  cases h2 : lt b a
  · rfl
  · have := lt_trans h h2
    rw [lt_irrefl] at this; cases this
theorem lt_three (a b : ByteArray) : lt a b = true ∨ a = b ∨ lt b a = true := by
  rcases cb_range a.data.toList b.data.toList with h | h | h
  · exact Or.inl (decide_eq_true (by omega))
  · exact Or.inr (Or.inl (str_ext ((cb_zero _ _).1 h)))
  · refine Or.inr (Or.inr (decide_eq_true ?_))
    rw [cb_swap]; omega
def rising (R : List Bm) : Prop := R.Pairwise (fun a b => lt a.1 b.1 = true)
end Ve
end Go.Proofs.YtnkgjddkdikikaaGreatDoor
namespace Go.Proofs.YtnkgjddkdikikaaGreatDoor
open Go.RowKit
namespace Ve
def rsX (X : List ByteArray) : Prop := X.Pairwise fun a b => lt a b = true
def insT : List ByteArray → ByteArray → List ByteArray
  | [], s => [s]
  | x :: r, s => if lt x s then x :: insT r s else if x = s then x :: r else s :: x :: r
theorem insT_mem {t s : ByteArray} : ∀ {X : List ByteArray}, t ∈ insT X s ↔ t = s ∨ t ∈ X
  | [] => by unfold insT; simp
  | x :: r => by
    unfold insT
    split
    · rw [List.mem_cons, insT_mem (X := r), List.mem_cons]
      constructor
      · rintro (h | h | h)
        · exact Or.inr (Or.inl h)
        · exact Or.inl h
        · exact Or.inr (Or.inr h)
      · rintro (h | h | h)
        · exact Or.inr (Or.inl h)
        · exact Or.inl h
        · exact Or.inr (Or.inr h)
    · split
      · next h => subst h; rw [List.mem_cons]; constructor
                  · intro h; exact Or.inr h
                  · rintro (h | h)
                    · exact Or.inl h
                    · exact h
      · rw [List.mem_cons]
theorem insT_ris {s : ByteArray} : ∀ {X : List ByteArray}, rsX X → rsX (insT X s)
  | [], _ => by unfold insT rsX; simp
  | x :: r, h => by
    obtain ⟨h1, h2⟩ := List.pairwise_cons.1 h
    unfold insT
    split
    · next hl =>
      refine List.pairwise_cons.2 ⟨fun y hy => ?_, insT_ris h2⟩
      rcases insT_mem.1 hy with rfl | hy
      · exact hl
      · exact h1 y hy
    · next hl =>
      split
      · exact h
      · next hne =>
        have hs : lt s x = true := by
          rcases lt_three x s with h3 | h3 | h3
          · exact absurd h3 hl
          · exact absurd h3 hne
          · exact h3
        refine List.pairwise_cons.2 ⟨fun y hy => ?_, h⟩
        rcases List.mem_cons.1 hy with rfl | hy
        · exact hs
        · exact lt_trans hs (h1 y hy)
theorem fold_mem {t : ByteArray} : ∀ {Z X : List ByteArray}, t ∈ Z.foldl insT X ↔ t ∈ X ∨ t ∈ Z
  | [], X => by simp
  | z :: Z, X => by
    rw [List.foldl_cons, fold_mem, insT_mem, List.mem_cons]
    constructor
    · rintro ((h | h) | h)
      · exact Or.inr (Or.inl h)
      · exact Or.inl h
      · exact Or.inr (Or.inr h)
    · rintro (h | h | h)
      · exact Or.inl (Or.inr h)
      · exact Or.inl (Or.inl h)
      · exact Or.inr h
theorem fold_ris : ∀ {Z X : List ByteArray}, rsX X → rsX (Z.foldl insT X)
  | [], _, h => h
  | z :: Z, X, h => by rw [List.foldl_cons]; exact fold_ris (Z := Z) (X := insT X z) (insT_ris h)
theorem rsX_nil : rsX [] := List.Pairwise.nil
theorem insT_len {s : ByteArray} : ∀ {X : List ByteArray}, (insT X s).length ≤ X.length + 1
  | [] => by unfold insT; simp
  | x :: r => by
    unfold insT
    have := insT_len (s := s) (X := r)
    split
    · simp only [List.length_cons]; omega
    · split <;> simp
theorem fold_len : ∀ {Z X : List ByteArray}, (Z.foldl insT X).length ≤ X.length + Z.length
  | [], _ => Nat.le_refl _
  | z :: Z, X => by
    have h1 := fold_len (Z := Z) (X := insT X z)
    have h2 := insT_len (s := z) (X := X)
    rw [List.foldl_cons, List.length_cons]; omega
theorem ris_one : ∀ {X Y : List ByteArray}, rsX X → rsX Y → (∀ t, t ∈ X ↔ t ∈ Y) → X = Y
  | [], Y, _, _, h => by
    cases Y with
    | nil => rfl
    | cons y r => exact absurd ((h y).2 (List.mem_cons_self ..)) (by simp)
  | x :: r, [], _, _, h => absurd ((h x).1 (List.mem_cons_self ..)) (by simp)
  | x :: r, y :: q, hx, hy, h => by
    obtain ⟨x1, x2⟩ := List.pairwise_cons.1 hx
    obtain ⟨y1, y2⟩ := List.pairwise_cons.1 hy
    have hxy : x = y := by
      rcases List.mem_cons.1 ((h x).1 (List.mem_cons_self ..)) with h1 | h1
      · exact h1
      · rcases List.mem_cons.1 ((h y).2 (List.mem_cons_self ..)) with h2 | h2
        · exact h2.symm
        · have h3 := lt_asymm (y1 x h1)
          rw [x1 y h2] at h3; cases h3
    subst hxy
    rw [ris_one x2 y2 fun t => ?_]
    constructor
    · intro ht
      rcases List.mem_cons.1 ((h t).1 (List.mem_cons_of_mem _ ht)) with rfl | h1
      · have := x1 t ht
        rw [lt_irrefl] at this; cases this
      · exact h1
    · intro ht
      rcases List.mem_cons.1 ((h t).2 (List.mem_cons_of_mem _ ht)) with rfl | h1
      · have := y1 t ht
        rw [lt_irrefl] at this; cases this
      · exact h1
end Ve
end Go.Proofs.YtnkgjddkdikikaaGreatDoor
namespace Go.Proofs.YtnkgjddkdikikaaGreatDoor
open Go.RowKit
namespace Ve
theorem errA1 (A : Nat → Addr) : errA A 1 = .iface 311 (.pointer (some (A 0))) := rfl
theorem errA2 (A : Nat → Addr) : errA A 2 = .iface 311 (.pointer (some (A 1))) := rfl
theorem errA4 (A : Nat → Addr) : errA A 4 = .iface 311 (.pointer (some (A 3))) := rfl
end Ve
end Go.Proofs.YtnkgjddkdikikaaGreatDoor
namespace Go.Proofs.YtnkgjddkdikikaaGreatDoor
open Go.RowKit
namespace Ve
structure Ds (w : World) (A : Nat → Addr) : Prop where
  b0 : ∃ c t, w.heap[(A 0).block]? = some (.cells c t (0, 0))
  b1 : ∃ c t, w.heap[(A 1).block]? = some (.cells c t (0, 0))
  b3 : ∃ c t, w.heap[(A 3).block]? = some (.cells c t (0, 0))
  n0 : A 0 ≠ A 3
  n1 : A 1 ≠ A 3
theorem blk_stayD {w w' : World} {b : Nat} (hb : Below w.heap.size w w') (h : ∃ c t, w.heap[b]? = some (.cells c t (0, 0))) : ∃ c t, w'.heap[b]? = some (.cells c t (0, 0)) := by
  obtain ⟨c, t, e⟩ := h
  exact ⟨c, t, (hb.block _ (lt_of_blk e)).trans e⟩
theorem Ds.below {w w' : World} {A : Nat → Addr} (h : Ds w A) (hb : Below w.heap.size w w') : Ds w' A := ⟨blk_stayD hb h.b0, blk_stayD hb h.b1, blk_stayD hb h.b3, h.n0, h.n1⟩
def likeE (l : List UInt8) : Nat := if pathErr l = 4 then 0 else pathErr l
theorem mpath_l (s : ByteArray) (A : Nat → Addr) (m : Int) (w : World) (hs : s.size < 4294967281) (S : Te w A m) :
    Calls Tryz.prog 44 #[.string s] w fun e w' => e = .returned (errA A (pathErr s.data.toList)) ∧ Below w.heap.size w w' := by
  have HP := hid (readPath_any s A m w hs S)
  clear S
  go_enter Tryz.func44, Tryz.ntmps44
  go_wp2_with fail
  refine HP.out.mono ?_
  rintro e w1 ⟨⟨H, n, v, rfl, hv, _, _⟩, hb⟩
  have HV := hid hv
  have HB := hid hb
  clear hb hv
  go_wp2_with fail
  go_ret
  exact ⟨by rw [← HV.out]; rfl, HB.out⟩
set_option maxHeartbeats 1000000 in
theorem lkp_any (s : ByteArray) (A : Nat → Addr) (m : Int) (w : World) (hs : s.size < 4294967281) (S : Te w A m) (D : Ds w A) :
    Calls Tryz.prog 106 #[.string s] w fun e w' => e = .returned (errA A (likeE s.data.toList)) ∧ Below w.heap.size w w' := by
  have HP := hid (mpath_l s A m w hs S)
  have HG := hid (fun W (h : Below w.heap.size w W) => cell_below h S.sen.g3)
  obtain ⟨i9, hi9, hcmp9⟩ := Option.map_eq_some_iff.1 compS
  obtain ⟨j9, hj9, hjs9⟩ := Option.map_eq_some_iff.1 sizeS
  have HQ0 := hid (fun W => run_eql_iface_nil_left (P := Tryz.prog) W 311 (.pointer (some (A 3))) Tryz.underlying27)
  have HQ1 := hid (fun W => run_eql_iface_ptr_same (P := Tryz.prog) W (A 3) Tryz.underlying27 Tryz.underlying311 hi9 hcmp9 hj9)
  have HQ2 := hid (fun W (h : Below w.heap.size w W) => by
    obtain ⟨c1, t1, e1⟩ := (D.below h).b0
    obtain ⟨c2, t2, e2⟩ := (D.below h).b3
    exact run_eql_iface_ptr_other (P := Tryz.prog) W Tryz.underlying27 Tryz.underlying311 hi9 hcmp9 hj9 (by rw [hjs9]; decide) D.n0 e1 e2)
  have HQ3 := hid (fun W (h : Below w.heap.size w W) => by
    obtain ⟨c1, t1, e1⟩ := (D.below h).b1
    obtain ⟨c2, t2, e2⟩ := (D.below h).b3
    exact run_eql_iface_ptr_other (P := Tryz.prog) W Tryz.underlying27 Tryz.underlying311 hi9 hcmp9 hj9 (by rw [hjs9]; decide) D.n1 e1 e2)
  have HE := hid (show likeE s.data.toList = if pathErr s.data.toList = 4 then 0 else pathErr s.data.toList from rfl)
  have HPE := hid (pathErr_err s.data.toList)
  generalize likeE s.data.toList = pe at *
  clear S D hi9 hcmp9 hj9 hjs9
  go_enter Tryz.func106, Tryz.ntmps106
  rcases HPE.out with h | h | h | h
  · rw [h] at HP HE
    have HE2 := hid (show pe = 0 from HE.out)
    rw [errA0] at HP
    clear h HE HPE
    go_wp2_with fail
    refine HP.out.mono ?_
    rintro e w2 ⟨rfl, hb⟩
    have HB2 := hid hb
    have g3 := HG.out _ HB2.out
    have q0 := HQ0.out w2
    clear hb
    go_wp2_with fail
    go_ret
    exact ⟨by rw [HE2.out]; rfl, HB2.out⟩
  · rw [h] at HP HE
    have HE2 := hid (show pe = 1 from HE.out)
    rw [errA1] at HP
    clear h HE HPE
    go_wp2_with fail
    refine HP.out.mono ?_
    rintro e w2 ⟨rfl, hb⟩
    have HB2 := hid hb
    have g3 := HG.out _ HB2.out
    have q0 := HQ2.out w2 HB2.out
    clear hb
    go_wp2_with fail
    go_ret
    exact ⟨by rw [HE2.out]; rfl, HB2.out⟩
  · rw [h] at HP HE
    have HE2 := hid (show pe = 2 from HE.out)
    rw [errA2] at HP
    clear h HE HPE
    go_wp2_with fail
    refine HP.out.mono ?_
    rintro e w2 ⟨rfl, hb⟩
    have HB2 := hid hb
    have g3 := HG.out _ HB2.out
    have q0 := HQ3.out w2 HB2.out
    clear hb
    go_wp2_with fail
    go_ret
    exact ⟨by rw [HE2.out]; rfl, HB2.out⟩
  · rw [h] at HP HE
    have HE2 := hid (show pe = 0 from HE.out)
    rw [errA4] at HP
    clear h HE HPE
    go_wp2_with fail
    refine HP.out.mono ?_
    rintro e w2 ⟨rfl, hb⟩
    have HB2 := hid hb
    have g3 := HG.out _ HB2.out
    have q0 := HQ1.out w2
    clear hb
    go_wp2_with fail
    go_ret
    exact ⟨by rw [HE2.out]; rfl, HB2.out⟩
end Ve
end Go.Proofs.YtnkgjddkdikikaaGreatDoor
namespace Go.Proofs.YtnkgjddkdikikaaGreatDoor
open Go.RowKit Go.Maps
namespace Ve
theorem nonE_good {Q : List Raw} {R : List Bm} (h0 : ∀ j (h : j < R.length), 0 ≤ idxOf (isM R[j]) Q) : (codeE (nonE Q R) R.length, fstE (nonE Q R) R.length) = (0, none) := by
  have hs : fstE (nonE Q R) R.length = none := fstE_none fun j hj => by
    rw [nonE_at hj]
    unfold nonW
    rw [if_neg (Int.not_lt.2 (h0 j hj))]
  rw [codeE_none hs, hs]
end Ve
end Go.Proofs.YtnkgjddkdikikaaGreatDoor
namespace Go.Proofs.YtnkgjddkdikikaaGreatDoor
open Go.RowKit Go.Maps
namespace Ve
theorem bx2 {W : World} {g : Nat} {x y : Value} {T : TypeId} (h : W.heap[g]? = some (.cells #[x, y] T (0, 0))) : W.cell? ⟨g, 0, none⟩ = some x ∧ W.cell? ⟨g, 1, none⟩ = some y ∧ ∀ o, W.frozen? ⟨g, o, none⟩ = false :=
  ⟨by rw [Lib.cell_of_heap h]; rfl, by rw [Lib.cell_of_heap h]; rfl, fun o => Lib.frozen_of_heap h o⟩
structure Pf (w W : World) (fb : Nat) (c a : Int) : Prop where
  bl : Below w.heap.size w W
  m : W.heap[w.heap.size]? = some (.cells #[.string ⟨#[]⟩, .string ⟨#[]⟩] 35 (0, 0))
  e : W.heap[w.heap.size + 1]? = some (.cells #[.int .i64 0, .int .i64 0] 62 (0, 0))
  f : W.heap[fb]? = some (.cells #[.int .i64 c, .int .i64 a] 62 (0, 0))
  ge : w.heap.size + 2 ≤ fb
theorem Pf.below {w W W' : World} {fb : Nat} {c a : Int} (h : Pf w W fb c a) (hb : Below W.heap.size W W') : Pf w W' fb c a :=
  ⟨h.bl.trans (hb.mono h.bl.size), (hb.block _ (lt_of_blk h.m)).trans h.m, (hb.block _ (lt_of_blk h.e)).trans h.e, (hb.block _ (lt_of_blk h.f)).trans h.f, h.ge⟩
theorem Pf.cells {w W : World} {fb : Nat} {c a : Int} (h : Pf w W fb c a) : (W.cell? ⟨w.heap.size, 0, none⟩ = some (.string ⟨#[]⟩) ∧ W.cell? ⟨w.heap.size, 1, none⟩ = some (.string ⟨#[]⟩) ∧ ∀ o, W.frozen? ⟨w.heap.size, o, none⟩ = false) ∧
    (W.cell? ⟨w.heap.size + 1, 0, none⟩ = some (.int .i64 0) ∧ W.cell? ⟨w.heap.size + 1, 1, none⟩ = some (.int .i64 0) ∧ ∀ o, W.frozen? ⟨w.heap.size + 1, o, none⟩ = false) ∧
    (W.cell? ⟨fb, 0, none⟩ = some (.int .i64 c) ∧ W.cell? ⟨fb, 1, none⟩ = some (.int .i64 a) ∧ ∀ o, W.frozen? ⟨fb, o, none⟩ = false) := ⟨bx2 h.m, bx2 h.e, bx2 h.f⟩
end Ve
end Go.Proofs.YtnkgjddkdikikaaGreatDoor
namespace Go.Proofs.YtnkgjddkdikikaaGreatDoor
open Go.RowKit Go.Maps
namespace Ve
structure Pg (w W : World) (fb bb : Nat) (b : Bm) : Prop where
  pf : Pf w W fb 0 (-1)
  bst : W.heap[bb]? = some (.cells #[.string b.1, .string b.2] 35 (0, 0))
  lt : fb < bb
theorem Pg.below {w W W' : World} {fb bb : Nat} {b : Bm} (h : Pg w W fb bb b) (hb : Below W.heap.size W W') : Pg w W' fb bb b :=
  ⟨h.pf.below hb, (hb.block _ (lt_of_blk h.bst)).trans h.bst, h.lt⟩
end Ve
end Go.Proofs.YtnkgjddkdikikaaGreatDoor
namespace Go.Proofs.YtnkgjddkdikikaaGreatDoor
open Go.RowKit
namespace Ve
def packT (t s : ByteArray) : ByteArray := if s = ⟨#[46]⟩ then t else t ++ ⟨#[47]⟩ ++ s
def packL (e : Ent) : List ByteArray := e.2.2.1.map (packT e.1.1)
theorem packL_len (e : Ent) : (packL e).length = e.2.2.1.length := by simp [packL]
def entOf (Q : List Raw) (L : List Ent) (m : Bm) : Ent := (L[(idxOf (isM m) Q).toNat]?).getD ((⟨#[]⟩, ⟨#[]⟩), [], [], false)
theorem entOf_at {Q : List Raw} {L : List Ent} {m : Bm} {k : Nat} (h : idxOf (isM m) Q = (k : Int)) (hk : k < L.length) : entOf Q L m = L[k] := by
  unfold entOf
  rw [h, show ((k : Int)).toNat = k from rfl, List.getElem?_eq_getElem hk]; rfl
def pkOf (Q : List Raw) (L : List Ent) (m : Bm) : List ByteArray := packL (entOf Q L m)
def slF (Q : List Raw) (R : List Bm) : Nat × Option Nat := (codeE (nonE Q R) R.length, fstE (nonE Q R) R.length)
def bstS (Q : List Raw) (L : List Ent) (p : ByteArray) (b m : Bm) : Bm := if inB p (pkOf Q L m) && decide (b.1.size < m.1.size) then m else b
def bstN (Q : List Raw) (L : List Ent) (p : ByteArray) (R : List Bm) (k : Nat) : Bm := (R.take k).foldl (bstS Q L p) (⟨#[]⟩, ⟨#[]⟩)
theorem bstN_next {Q : List Raw} {L : List Ent} {p : ByteArray} {R : List Bm} {k : Nat} (h : k < R.length) : bstN Q L p R (k + 1) = bstS Q L p (bstN Q L p R k) R[k] := by
  unfold bstN
  rw [List.take_succ_eq_append_getElem h, List.foldl_append]; rfl
def hvL (Q : List Raw) (L : List Ent) (R : List Bm) (p : ByteArray) : List Bm := R.filter fun m => inB p (pkOf Q L m)
theorem hv_all (Q : List Raw) (L : List Ent) (R : List Bm) (p : ByteArray) : (hvL Q L R p).length ≤ R.length := List.length_filter_le _ _
def ofF (Q : List Raw) (L : List Ent) (R : List Bm) (p : ByteArray) : Nat × Option Nat :=
  if (chk Q L).1 ≠ 0 then chk Q L
  else if pathErr p.data.toList ≠ 0 ∧ pathErr p.data.toList ≠ 4 then (pathErr p.data.toList, none)
  else if (slF Q R).1 ≠ 0 then slF Q R
  else if (bstN Q L p R R.length).1.size = 0 then (5, none) else (0, none)
def ofM (Q : List Raw) (L : List Ent) (R : List Bm) (p : ByteArray) : Bm := if (ofF Q L R p).1 = 0 then bstN Q L p R R.length else (⟨#[]⟩, ⟨#[]⟩)
def alF (Q : List Raw) (L : List Ent) (R : List Bm) : Nat × Option Nat := if (chk Q L).1 ≠ 0 then chk Q L else slF Q R
def alN (Q : List Raw) (L : List Ent) (R : List Bm) : List ByteArray := (R.flatMap (pkOf Q L)).foldl insT []
def alX (Q : List Raw) (L : List Ent) (R : List Bm) : List ByteArray := if (alF Q L R).1 = 0 then alN Q L R else []
theorem alN_mem {Q : List Raw} {L : List Ent} {R : List Bm} {s : ByteArray} : s ∈ alN Q L R ↔ ∃ m, m ∈ R ∧ s ∈ pkOf Q L m := by
  unfold alN
  rw [fold_mem, List.mem_flatMap]
  constructor
  · rintro (h | h)
    · cases h
    · exact h
  · intro h; exact Or.inr h
end Ve
end Go.Proofs.YtnkgjddkdikikaaGreatDoor
namespace Go.Proofs.YtnkgjddkdikikaaGreatDoor
open Go.RowKit Go.Maps
namespace Ve
theorem owns_from {w : World} {B C : Nat} {e : TypeId} {size : Nat} {v : Value} {n : Nat} {xs : List Value} (h : w.ownsRow B e size v n xs) (hb : C ≤ B) : w.ownsRow C e size v n xs := owns_mono h hb
theorem map_snoc {X : List ByteArray} {k : Nat} (hk : k < X.length) (f : ByteArray → ByteArray) : (X.take (k + 1)).map f = (X.take k).map f ++ [f X[k]] := by
  rw [List.take_succ_eq_append_getElem hk, List.map_append]; rfl
theorem packT_dot (t : ByteArray) : packT t ⟨#[46]⟩ = t := if_pos rfl
theorem packT_no {t s : ByteArray} (h : ¬ s = ⟨#[46]⟩) : packT t s = t ++ ⟨#[47]⟩ ++ s := if_neg h
end Ve
end Go.Proofs.YtnkgjddkdikikaaGreatDoor
namespace Go.Proofs.YtnkgjddkdikikaaGreatDoor
open Go.RowKit
namespace Ve
theorem pk_is {w : World} {v : Value} {Q : List Raw} {L : List Ent} (I : Ixs w v Q L) {m : Bm} {k : Nat} (hk : idxOf (isM m) Q = (k : Int)) : ∃ hq : k < Q.length, ∃ hl : k < L.length, Q[k].1 = m ∧ pkOf Q L m = (L[k]).2.2.1.map (packT m.1) ∧ TxAt w Q[k].2.2.1 (L[k]).2.2.1 := by
  obtain ⟨hkq, hm⟩ := idx_is hk
  have hkl : k < L.length := by rw [← I.ln]; exact hkq
  have hr := I.ok k hkq hkl
  have hm2 : Q[k].1 = m := by
    unfold isM at hm
    have := of_decide_eq_true hm
    exact Prod.ext this.1 this.2
  have he : (L[k]).1 = m := by rw [← hr.m]; exact hm2
  exact ⟨hkq, hkl, hm2, by unfold pkOf packL; rw [entOf_at hk hkl, he], hr.pk⟩
set_option maxRecDepth 100000 in
set_option maxHeartbeats 4000000 in
theorem pks_any (Q : List Raw) (L : List Ent) (m : Bm) (k : Nat) (v : Value) (w : World) (hL : L.length ≤ 1000) (sh : ∀ e, e ∈ L → ShE e) (hms : m.1.size < 999999) (I : Ixs w v Q L) (hk : idxOf (isM m) Q = (k : Int)) :
    Calls Tryz.prog 102 #[v, .agg #[.string m.1, .string m.2]] w fun e w' => ∃ u, e = .returned u ∧ w'.ownsRow w.heap.size 9 1 u (pkOf Q L m).length ((pkOf Q L m).map Value.string) ∧ Below w.heap.size w w' := by
  obtain ⟨i0, hi, hz0, hz1, hz2⟩ := info_parts infoStr
  obtain ⟨hkq, hkl, hqm, hpk, hpx⟩ := pk_is I hk
  have hsh := sh _ (List.getElem_mem hkl)
  have hX := hsh.pn
  have hxs := hsh.ps
  rw [hpk]
  have HF := hid (fun W (h : Below w.heap.size w W) => find_any Q m v W (by rw [I.ln]; omega) (I.es.below h))
  rw [hk] at HF
  obtain ⟨a, c, hv1, hcl, hsl, hce⟩ := id I.es
  subst hv1
  obtain ⟨eb, eo, rfl, hcells⟩ := hce (fun h => by rw [h] at hkq; simp at hkq)
  have HY3 := hid (hcells k hkq).2.2.2.1
  generalize (L[k]).2.2.1 = X at *
  obtain ⟨pa, pc, hpv, -, -⟩ := id hpx
  rw [hpv] at HY3 hpx
  have HX := hid hpx
  have hkI := ix_lt hkq
  have hk0 := ix_pos k
  obtain ⟨t, q⟩ := m
  simp only at hms ⊢
  have HB0 := hid ((Below.refl w.heap.size w).alloc (Nat.le_refl _) (.cells #[.string t, .string q] 35))
  have HE0 := hid (heap_new w (.cells #[.string t, .string q] 35))
  generalize hZ : X.map (packT t) = Z
  have HZ := hid hZ
  clear hZ hpx I hk hpk hqm hsh hcells hsl hce sh
  go_enter Tryz.func102, Tryz.ntmps102
  go_wp2_with fail
  refine (HF.out _ HB0.out).mono ?_
  rintro e w1 ⟨rfl, hb⟩
  have HB1 := hid (HB0.out.trans (hb.mono HB0.out.size))
  have HE1 := hid ((hb.block _ (lt_of_blk HE0.out)).trans HE0.out)
  have HX1 := hid (HX.out.below HB1.out)
  have y3 := cell_below HB1.out HY3.out
  clear hb HE0 HX
  go_wp2_with fail
  clear y3
  go_loopw [5, 16] (fun ov iv wr => ∃ k : Nat, k ≤ X.length ∧ iv = .int .i64 k ∧ Hid (wr.ownsRow w1.heap.size 9 1 ov ((X.take k).map (packT t)).length (((X.take k).map (packT t)).map Value.string)) ∧ Hid (Below w1.heap.size w1 wr)) (fun _ iv _ => X.length - (intOf iv).toNat)
  case atStart => exact ⟨0, Nat.zero_le _, rfl, hid (World.ownsRow_nil _ _ _ _), hid (Below.refl _ _)⟩
  case round =>
    obtain ⟨k, hk, rfl, HO, HB⟩ := hrel
    have HER := hid ((HB.out.block _ (lt_of_blk HE1.out)).trans HE1.out)
    have s0 : wr.cell? ⟨w.heap.size, 0, none⟩ = some (.string t) := by rw [Lib.cell_of_heap HER.out]; rfl
    by_cases hlt : k < X.length
    · have hkI := ix_lt hlt
      have hk0 := ix_pos k
      have HLT := hid hlt
      obtain ⟨lb, lo, rfl, y9⟩ := tx_cellK HX1.out hlt
      have y0 := cell_below HB.out y9
      clear y9
      have HSN := hid (map_snoc hlt (packT t))
      have HLN := hid (show ((X.take k).map (packT t)).length ≤ 1000 by rw [List.length_map, List.length_take]; omega)
      have HDT := hid (fun h : X[k] = ⟨#[46]⟩ => show packT t X[k] = t by rw [h, packT_dot])
      have HND := hid (fun h : ¬ X[k] = ⟨#[46]⟩ => packT_no (t := t) h)
      have hxk := hxs _ (List.getElem_mem hlt)
      generalize X[k] = x at *
      generalize (X.take k).map (packT t) = Y at *
      clear hlt HX1
      by_cases he : x = ⟨#[46]⟩
      · have HP := hid (HDT.out he)
        have hss : (x.toList == [46]) = true := by rw [he, ByteArray.toList_eq]; rfl
        clear he
        go_wp2_with (at_builtin; refine wpList_append_own _ rfl _ _ 29 rfl w1.heap.size 9 i0 _ 1 16 Tryz.underlying29 hi hz0 hz1 hz2 rfl (by decide) _ _ _ rfl (HO.out.alloc _) ⟨wr.heap.size, 0, none⟩ 1 1 [.string t] rfl rfl ?c1 ?c2 ?c3 ?c4 ?c5 ?_)
        case c1 => exact World.news_of_block (cs := #[.string t]) (heap_new _ _)
        case c2 => intro u hu; simp at hu; rw [hu]; rfl
        case c3 => have := HLN.out; unfold maxLen; omega
        case c4 => have := HLN.out; omega
        case c5 => have := HB.out.size; simp; omega
        intro v' w3 hown hgrow _
        have HR3 := hid (rel_app HB.out.size HB.out HO.out (Below.refl _ _) hgrow)
        have HO3 := hid hown
        clear hown hgrow s0 y0
        go_wp2_with fail
        go_roundw
        case rel => exact ⟨k + 1, HLT.out, by first | exact nr_idx k | exact nx_idx HLT.out (by omega : X.length ≤ 1000000), by rw [HSN.out, List.length_append, List.map_append, HP.out]; exact HO3, HR3⟩
        case measure => first | exact nr_meas HLT.out | exact nx_meas HLT.out (by omega : X.length ≤ 1000000)
      · have HP := hid (HND.out he)
        have hss : (x.toList == [46]) = false := by
          have h := str_ne he
          rw [ByteArray.toList_eq, ByteArray.toList_eq] at h
          rw [ByteArray.toList_eq]; exact h
        clear he
        have b0 : ¬ 9223372036854775807 < t.size + 1 := by omega
        have b1 : ¬ 9223372036854775807 < t.size + 1 + x.size := by omega
        have b2 : (t ++ (⟨#[47]⟩ : ByteArray)).size = t.size + 1 := by rw [ByteArray.size_append]; rfl
        go_wp2_with (at_builtin; refine wpList_append_own _ rfl _ _ 29 rfl w1.heap.size 9 i0 _ 1 16 Tryz.underlying29 hi hz0 hz1 hz2 rfl (by decide) _ _ _ rfl (HO.out.alloc _) ⟨wr.heap.size, 0, none⟩ 1 1 [.string (t ++ ⟨#[47]⟩ ++ x)] rfl rfl ?c1 ?c2 ?c3 ?c4 ?c5 ?_)
        case c1 => exact World.news_of_block (cs := #[.string (t ++ ⟨#[47]⟩ ++ x)]) (heap_new _ _)
        case c2 => intro u hu; simp at hu; rw [hu]; rfl
        case c3 => have := HLN.out; unfold maxLen; omega
        case c4 => have := HLN.out; omega
        case c5 => have := HB.out.size; simp; omega
        intro v' w3 hown hgrow _
        have HR3 := hid (rel_app HB.out.size HB.out HO.out (Below.refl _ _) hgrow)
        have HO3 := hid hown
        clear hown hgrow s0 y0
        go_wp2_with fail
        go_roundw
        case rel => exact ⟨k + 1, HLT.out, by first | exact nr_idx k | exact nx_idx HLT.out (by omega : X.length ≤ 1000000), by rw [HSN.out, List.length_append, List.map_append, HP.out]; exact HO3, HR3⟩
        case measure => first | exact nr_meas HLT.out | exact nx_meas HLT.out (by omega : X.length ≤ 1000000)
    · have HTR := hid (show X.take k = X from List.take_of_length_le (by omega))
      rw [HTR.out, HZ.out] at HO
      have hkI := ix_nlt hlt
      clear hlt
      go_wp2_with fail
      go_ret
      exact ⟨_, rfl, owns_from HO.out HB1.out.size, HB1.out.trans (HB.out.mono HB1.out.size)⟩
end Ve
end Go.Proofs.YtnkgjddkdikikaaGreatDoor
namespace Go.Proofs.YtnkgjddkdikikaaGreatDoor
open Go.RowKit
namespace Ve
abbrev vb (m : Bm) : List UInt8 := m.2.data.toList
structure Rt (m : Bm) : Prop where
  ok : mErr m = 0
  p : m.1.size < 999999
  v : m.2.size < 999999
theorem Rt.ver {m : Bm} (h : Rt m) : verErr (vb m) = 0 := (mErr_zero h.ok).2
def nfW (a b : Bm) : Prop := lt a.1 b.1 = true ∨ (a.1 = b.1 ∧ ordV (vb b) (vb a) ≤ 0)
structure Jn (D E : List Bm) : Prop where
  ri : rising E
  sub : ∀ e, e ∈ E → e ∈ D ∧ mErr e = 0
  top : ∀ x, x ∈ D → mErr x = 0 → ∃ e, e ∈ E ∧ e.1 = x.1 ∧ ordV (vb x) (vb e) ≤ 0
def atP (B : List Bm) (p : ByteArray) : Option Bm := B.find? fun x => decide (x.1 = p)
def hasV (B : List Bm) (m : Bm) : Bool := match atP B m.1 with
  | none => false
  | some x => !lessB (vb x) (vb m)
def undB (A B : List Bm) : Bool := A.all (hasV B)
end Ve
end Go.Proofs.YtnkgjddkdikikaaGreatDoor
