/-
  PgS GrA GtA KeR PkE PkP GtX PkJ MtP UpP PkW UtP PkR PkQ PgP PkL PgF
-/
import Derived.Sort.LotA
import Derived.Test.YtnkgjddkdikikaaGreatDoorPq25
import Derived.Test.YtnkgjddkdikikaaGreatDoorPq2
import Derived.Test.YtnkgjddkdikikaaGreatDoorPq26
import Derived.Test.YtnkgjddkdikikaaGreatDoorPq3
import Derived.Test.YtnkgjddkdikikaaGreatDoorPq14
import Derived.Test.YtnkgjddkdikikaaGreatDoorPq27
import Derived.Test.YtnkgjddkdikikaaGreatDoorPq32
import Derived.Test.YtnkgjddkdikikaaGreatDoorPq5
import Derived.Test.YtnkgjddkdikikaaGreatDoorPq35
import Derived.Test.YtnkgjddkdikikaaGreatDoorPq4
import Derived.Test.YtnkgjddkdikikaaGreatDoorPq7
import Derived.Test.YtnkgjddkdikikaaGreatDoorPq10
import Derived.Test.YtnkgjddkdikikaaGreatDoorPq12
import Derived.Test.YtnkgjddkdikikaaGreatDoorPq13
import Derived.Test.YtnkgjddkdikikaaGreatDoorPq23
import Derived.Test.YtnkgjddkdikikaaGreatDoorPq29
import Derived.Test.YtnkgjddkdikikaaGreatDoorPq24
import Derived.Test.YtnkgjddkdikikaaGreatDoorPq49
import Derived.Test.YtnkgjddkdikikaaGreatDoorPq84
import Derived.Test.YtnkgjddkdikikaaGreatDoorPq31
import Derived.Test.YtnkgjddkdikikaaGreatDoorPq37
import Derived.Test.YtnkgjddkdikikaaGreatDoorPq18
import Derived.Test.YtnkgjddkdikikaaGreatDoorPq88
import Derived.Test.YtnkgjddkdikikaaGreatDoorPq87
namespace Go.Proofs.YtnkgjddkdikikaaGreatDoor
namespace Ve
theorem falls_one {α : Type} {f : α → Nat} : ∀ {Y Z : List α}, (Y.Pairwise fun a b => f b ≤ f a) → (Z.Pairwise fun a b => f b ≤ f a) → (∀ n, szL f n Y = szL f n Z) → Y = Z
  | [], [], _, _, _ => rfl
  | [], z :: Z, _, _, h => by
    have := h (f z)
    unfold szL at this
    simp at this
  | y :: Y, [], _, _, h => by
    have := h (f y)
    unfold szL at this
    simp at this
  | y :: Y, z :: Z, h1, h2, h => by
    obtain ⟨a1, a2⟩ := List.pairwise_cons.1 h1
    obtain ⟨b1, b2⟩ := List.pairwise_cons.1 h2
    have hz : z ∈ y :: Y := (szL_mem.1 ((h (f z)).symm ▸ szL_mem.2 ⟨List.mem_cons_self, rfl⟩)).1
    have hy : y ∈ z :: Z := (szL_mem.1 ((h (f y)) ▸ szL_mem.2 ⟨List.mem_cons_self, rfl⟩)).1
    have l1 : f z ≤ f y := by
      rcases List.mem_cons.1 hz with e | e
      · rw [e]; exact Nat.le_refl _
      · exact a1 z e
    have l2 : f y ≤ f z := by
      rcases List.mem_cons.1 hy with e | e
      · rw [e]; exact Nat.le_refl _
      · exact b1 y e
    have hh := h (f y)
    unfold szL at hh
    rw [List.filter_cons_of_pos (by simp), List.filter_cons_of_pos (by simp; omega)] at hh
    injection hh with e1 e2
    subst e1
    refine congrArg (y :: ·) (falls_one a2 b2 fun n => ?_)
    have hn := h n
    unfold szL at hn ⊢
    by_cases e : f y = n
    · rw [List.filter_cons_of_pos (by simpa using e), List.filter_cons_of_pos (by simpa using e)] at hn
      injection hn
    · rwa [List.filter_cons_of_neg (by simpa using e), List.filter_cons_of_neg (by simpa using e)] at hn
end Ve
end Go.Proofs.YtnkgjddkdikikaaGreatDoor
namespace Go.Proofs.YtnkgjddkdikikaaGreatDoor
namespace Ve
theorem Wn.rch {req : Bm → List Bm} {roots : List Bm} {n : Nat} {m : Bm} (h : Wn req roots n m) : Rch req roots m := by
  induction h with
  | root hr => exact .root hr
  | step _ hr ih => exact .step ih hr
end Ve
end Go.Proofs.YtnkgjddkdikikaaGreatDoor
namespace Go.Proofs.YtnkgjddkdikikaaGreatDoor
namespace Ve
theorem rch_wn {req : Bm → List Bm} {roots : List Bm} {m : Bm} (h : Rch req roots m) : ∃ n, Wn req roots n m := by
  induction h with
  | root hr => exact ⟨1, .root hr⟩
  | step _ hr ih => obtain ⟨n, hn⟩ := ih; exact ⟨n + 1, .step hn hr⟩
theorem wn_dst {req : Bm → List Bm} {roots : List Bm} {m : Bm} : ∀ (n : Nat), Wn req roots n m → ∃ d, Dst req roots m d := fun n => by
  induction n using Nat.strongRecOn with
  | ind n ih =>
    intro h
    by_cases hs : ∃ k, k < n ∧ Wn req roots k m
    · obtain ⟨k, hk, hw⟩ := hs
      exact ih k hk hw
    · exact ⟨n, h, fun k hk => Nat.le_of_not_lt fun hlt => hs ⟨k, hlt, hk⟩⟩
theorem Dst.row {req : Bm → List Bm} {roots : List Bm} : ∀ {d : Nat} {m : Bm}, Dst req roots m d → ∃ Y : List Bm, Y.length = d ∧ Y.Nodup ∧ ∀ y, y ∈ Y → ∃ k, k ≤ d ∧ Dst req roots y k
  | 0, m, h => absurd h.1.pos (by omega)
  | d + 1, m, h => by
    have hs := h
    obtain ⟨hw, hm⟩ := h
    cases hw with
    | root hr => exact ⟨[m], rfl, by simp, fun y hy => by rw [List.mem_singleton] at hy; subst hy; exact ⟨_, Nat.le_refl _, hs⟩⟩
    | @step _ p _ hp hr =>
      have hd : Dst req roots p d := ⟨hp, fun k hk => by have := hm _ (.step hk hr); omega⟩
      obtain ⟨Y, h1, h2, h3⟩ := Dst.row hd
      refine ⟨m :: Y, by simp [h1], List.nodup_cons.2 ⟨fun hmem => ?_, h2⟩, fun y hy => ?_⟩
      · obtain ⟨k, hk, hk2⟩ := h3 m hmem
        have := hk2.one hs
        omega
      · rcases List.mem_cons.1 hy with rfl | hy
        · exact ⟨_, Nat.le_refl _, hs⟩
        · obtain ⟨k, hk, hk2⟩ := h3 y hy
          exact ⟨k, by omega, hk2⟩
theorem Dst.le {req : Bm → List Bm} {roots U : List Bm} (hU : ∀ m, Rch req roots m → m ∈ U) {d : Nat} {m : Bm} (h : Dst req roots m d) : d ≤ U.length := by
  obtain ⟨Y, h1, h2, h3⟩ := h.row
  rw [← h1]
  exact nd_len Y U h2 fun y hy => by
    obtain ⟨_, _, hk⟩ := h3 y hy
    exact hU y hk.1.rch
theorem Fr.zero {req : Bm → List Bm} {U roots : List Bm} {n i : Nat} {F : List Nat} (h : Fr req U roots n i F) (hn : U.length ≤ n) (hU : ∀ m, Rch req roots m → m ∈ U) {j : Nat} (hj : j < U.length) (hj' : j < F.length) : F[j] = 0 ↔ ¬ Rch req roots U[j] := by
  constructor
  · intro e hR
    obtain ⟨k, hk⟩ := rch_wn hR
    obtain ⟨d, hd⟩ := wn_dst k hk
    exact (h.lo d j hj hj' (Nat.le_trans (hd.le hU) hn) hd.1).1 e
  · intro hR
    by_cases e : F[j] = 0
    · exact e
    · exact absurd (h.so j hj hj' e).rch hR
end Ve
end Go.Proofs.YtnkgjddkdikikaaGreatDoor
namespace Go.Proofs.YtnkgjddkdikikaaGreatDoor
open Go.RowKit Go.Maps
namespace Ve
def bestK (K : List (Bm × Bool)) : List (Bm × Bool) := if 0 < ((K.filter fun k => !k.2).filter fun k => !preB k.1.2).length then (K.filter fun k => !k.2).filter fun k => !preB k.1.2 else if 0 < (K.filter fun k => !k.2).length then K.filter fun k => !k.2 else K
theorem key_best (R : List Raw) : (bestR R).map keyR = bestK (R.map keyR) := by
  have e1 := key_filter (fun k => !k.2) isS (fun _ => rfl) R
  have e2 := key_filter (fun k => !preB k.1.2) isD (fun _ => rfl) (R.filter isS)
  rw [e1] at e2
  unfold bestR bestK
  rw [← e2, ← e1, List.length_map, List.length_map]
  split
  · rfl
  · split <;> rfl
end Ve
end Go.Proofs.YtnkgjddkdikikaaGreatDoor
namespace Go.Proofs.YtnkgjddkdikikaaGreatDoor
open Go.RowKit Go.Maps
namespace Ve
theorem Pf.drew {w W : World} {fb : Nat} {c a : Int} (h : Pf w W fb c a) (n : Nat) : Pf w (W.drewN n) fb c a := h.below (below_drawn W n)
end Ve
end Go.Proofs.YtnkgjddkdikikaaGreatDoor
namespace Go.Proofs.YtnkgjddkdikikaaGreatDoor
open Go.RowKit
namespace Ve
def phX (Q : List Raw) : List ByteArray := (pathL Q).foldl insT []
theorem phX_mem {Q : List Raw} {t : ByteArray} : t ∈ phX Q ↔ ∃ r, r ∈ Q ∧ r.1.1 = t := by
  unfold phX
  rw [fold_mem]
  unfold pathL
  rw [List.mem_map]
  constructor
  · rintro (h | h)
    · cases h
    · exact h
  · intro h; exact Or.inr h
theorem phX_ris (Q : List Raw) : rsX (phX Q) := fold_ris rsX_nil
end Ve
end Go.Proofs.YtnkgjddkdikikaaGreatDoor
namespace Go.Proofs.YtnkgjddkdikikaaGreatDoor
open Go.RowKit Go.Maps
namespace Ve
theorem reqQ_same {Q Q' : List Raw} {L : List Ent} (h : Q.map (fun r => r.1) = Q'.map (fun r => r.1)) : reqQ Q L = reqQ Q' L := funext fun m => by
  unfold reqQ
  rw [isM_same h m]
theorem chkG_same {Q Q' : List Raw} {L : List Ent} (h : Q.map (fun r => r.1) = Q'.map (fun r => r.1)) (roots : List Bm) : chkG Q L roots = chkG Q' L roots := by
  unfold chkG
  rw [chk_same h, nonE_same h]
theorem rX_same {Q Q' : List Raw} {L : List Ent} (h : Q.map (fun r => r.1) = Q'.map (fun r => r.1)) (roots : List Bm) : rX Q L roots = rX Q' L roots := by unfold rX; rw [chkG_same h, reqQ_same h]
end Ve
end Go.Proofs.YtnkgjddkdikikaaGreatDoor
namespace Go.Proofs.YtnkgjddkdikikaaGreatDoor
open Go.RowKit Go.Maps
namespace Ve
def CutP (Φ : Nat → World → Prop) (F : Nat → Act) : Exit → Act → World → Prop
  | .normal, a', w' => ∃ mb, Φ mb w' ∧ a' = F mb
  | _, _, _ => False
theorem wp_cut {P : Program} {c : Code} {K : Exit → Act → World → Prop} {a : Act} {w : World} (Φ : Nat → World → Prop) (h : ∃ F : Nat → Act, c.wp P (CutP Φ F) a w ∧ ∀ mb w', Φ mb w' → K Exit.normal (F mb) w') : c.wp P K a w := by
  obtain ⟨F, h1, h2⟩ := h
  refine Code.wp_mono (fun ex a' w' q => ?_) h1
  cases ex with
  | normal =>
    obtain ⟨mb, hp, rfl⟩ := q
    exact h2 mb w' hp
  | _ => exact q.elim
end Ve
end Go.Proofs.YtnkgjddkdikikaaGreatDoor
namespace Go.Proofs.YtnkgjddkdikikaaGreatDoor
open Go.RowKit Go.Maps
namespace Ve
theorem bX_same {Q Q' : List Raw} {L : List Ent} (h : Q.map (fun r => r.1) = Q'.map (fun r => r.1)) (roots : List Bm) : bX Q L roots = bX Q' L roots := by unfold bX; rw [rX_same h]
end Ve
end Go.Proofs.YtnkgjddkdikikaaGreatDoor
namespace Go.Proofs.YtnkgjddkdikikaaGreatDoor
open Go.RowKit Go.Maps
namespace Ve
theorem latV_of {Q : List Raw} {t : ByteArray} {X : List ByteArray} (h : KeptT Q t X) : lastT X = latV Q t := by
  have he : ∃ X, KeptT Q t X := ⟨X, h⟩
  unfold latV
  rw [dif_pos he, kept_one h he.choose_spec]
theorem lat_in {w : World} {v : Value} {Q : List Raw} {L : List Ent} {t : ByteArray} {X : List ByteArray} (I : Ixs w v Q L) (hc : (chk Q L).1 = 0) (ht : ∃ m, m ∈ univ L ∧ m.1 = t) (hK : KeptT Q t X) : (t, latV Q t) ∈ univ L := by
  have g := good_of I hc
  obtain ⟨m, hm, e⟩ := ht
  rw [← univ_eq I] at hm
  obtain ⟨r0, hr0, rfl⟩ := List.mem_map.1 hm
  have hne : ofP t Q ≠ [] := List.ne_nil_of_mem (g.ofP_mem.2 ⟨hr0, e⟩)
  have hsub : ∀ r, r ∈ bestR (ofP t Q) → r ∈ Q := fun r hr => ofP_sub r (bestR_sub hr)
  obtain ⟨⟨r, hr, er⟩, -⟩ := kept_last g hsub (bestR_ne hne) hK
  have hrq := g.ofP_mem.1 (bestR_sub hr)
  rw [← univ_eq I, ← latV_of hK]
  exact List.mem_map.2 ⟨r, hrq.1, Prod.ext hrq.2 er⟩
end Ve
end Go.Proofs.YtnkgjddkdikikaaGreatDoor
namespace Go.Proofs.YtnkgjddkdikikaaGreatDoor
open Go.RowKit
namespace Ve
noncomputable def whH (Q : List Raw) (L : List Ent) (p t : ByteArray) : Bool := inB p (pkOf Q L (t, latV Q t))
noncomputable def whN (Q : List Raw) (L : List Ent) (p : ByteArray) (X : List ByteArray) (n : Nat) : List Bm := (X.filter fun t => decide (t.size = n) && whH Q L p t).map fun t => (t, latV Q t)
noncomputable def whD (Q : List Raw) (L : List Ent) (p : ByteArray) (X : List ByteArray) : Nat → List Bm
  | 0 => []
  | n + 1 => whN Q L p X (n + 1) ++ whD Q L p X n
noncomputable def whX (Q : List Raw) (L : List Ent) (p : ByteArray) : List Bm := if (chk Q L).1 = 0 then whD Q L p (phX Q) 100 else []
theorem whN_mem {Q : List Raw} {L : List Ent} {p : ByteArray} {X : List ByteArray} {n : Nat} {m : Bm} : m ∈ whN Q L p X n ↔ m.1 ∈ X ∧ m.1.size = n ∧ whH Q L p m.1 = true ∧ m.2 = latV Q m.1 := by
  unfold whN
  rw [List.mem_map]
  constructor
  · rintro ⟨t, ht, rfl⟩
    obtain ⟨h1, h2⟩ := List.mem_filter.1 ht
    rw [Bool.and_eq_true, decide_eq_true_iff] at h2
    exact ⟨h1, h2.1, h2.2, rfl⟩
  · rintro ⟨h1, h2, h3, h4⟩
    refine ⟨m.1, List.mem_filter.2 ⟨h1, by rw [Bool.and_eq_true, decide_eq_true_iff]; exact ⟨h2, h3⟩⟩, ?_⟩
    rw [← h4]
theorem whD_mem {Q : List Raw} {L : List Ent} {p : ByteArray} {X : List ByteArray} {m : Bm} : ∀ {n : Nat}, m ∈ whD Q L p X n ↔ m.1 ∈ X ∧ (0 < m.1.size ∧ m.1.size ≤ n) ∧ whH Q L p m.1 = true ∧ m.2 = latV Q m.1
  | 0 => by
    unfold whD
    constructor
    · intro h; cases h
    · rintro ⟨_, h, _⟩; omega
  | n + 1 => by
    unfold whD
    rw [List.mem_append, whN_mem, whD_mem]
    constructor
    · rintro (⟨h1, h2, h3⟩ | ⟨h1, h2, h3⟩)
      · exact ⟨h1, by omega, h3⟩
      · exact ⟨h1, by omega, h3⟩
    · rintro ⟨h1, h2, h3⟩
      by_cases e : m.1.size = n + 1
      · exact Or.inl ⟨h1, e, h3⟩
      · exact Or.inr ⟨h1, by omega, h3⟩
theorem whD_down {Q : List Raw} {L : List Ent} {p : ByteArray} {X : List ByteArray} : ∀ n : Nat, (whD Q L p X n).Pairwise fun a b => b.1.size ≤ a.1.size
  | 0 => by unfold whD; exact List.Pairwise.nil
  | n + 1 => by
    unfold whD
    rw [List.pairwise_append]
    refine ⟨?_, whD_down n, fun a ha b hb => ?_⟩
    · refine List.pairwise_of_forall_mem_list fun a ha b hb => ?_
      have h1 := (whN_mem.1 ha).2.1
      have h2 := (whN_mem.1 hb).2.1
      omega
    · have h1 := (whN_mem.1 ha).2.1
      have h2 := (whD_mem.1 hb).2.1
      omega
end Ve
end Go.Proofs.YtnkgjddkdikikaaGreatDoor
namespace Go.Proofs.YtnkgjddkdikikaaGreatDoor
open Go.RowKit Go.Maps
namespace Ve
theorem keptT_ex {Q : List Raw} (g : Good Q) (t : ByteArray) : ∃ Y, KeptT Q t Y :=
  kept_ex (verL_ok g fun r hr => ofP_sub r (bestR_sub hr))
theorem verL_same {Q Q' : List Raw} (h : Q.map keyR = Q'.map keyR) (t : ByteArray) : verL (bestR (ofP t Q)) = verL (bestR (ofP t Q')) := by
  rw [key_ver, key_ver, key_best, key_best]
  have e := fun Q => key_filter (fun k => decide (k.1.1 = t) && decide (verErr k.1.2.data.toList = 0)) (isP t) (fun _ => rfl) Q
  unfold ofP
  rw [e Q, e Q', h]
theorem latV_same {Q Q' : List Raw} (h : Q.map keyR = Q'.map keyR) (t : ByteArray) : latV Q t = latV Q' t := by
  unfold latV KeptT
  rw [verL_same h]
theorem latL_same {Q Q' : List Raw} (h : Q.map keyR = Q'.map keyR) (E : List Bm) : latL Q E = latL Q' E := by
  unfold latL
  congr 1
  funext m
  rw [latV_same h]
theorem upF_same {Q Q' : List Raw} {L : List Ent} (h : Q.map keyR = Q'.map keyR) (E : List Bm) : upF Q L E = upF Q' L E := by
  unfold upF
  rw [latL_same h, bX_same (key_mod h)]
theorem upN_same {Q Q' : List Raw} {L : List Ent} (h : Q.map keyR = Q'.map keyR) (E : List Bm) : ∀ n, upN Q L E n = upN Q' L E n
  | 0 => rfl
  | n + 1 => by
    show upF Q L (upN Q L E n) = upF Q' L (upN Q' L E n)
    rw [upN_same h E n, upF_same h]
theorem Fix.same {Q Q' : List Raw} {L : List Ent} {E0 E : List Bm} (h : Q.map keyR = Q'.map keyR) (f : Fix Q L E0 E) : Fix Q' L E0 E := by
  obtain ⟨n, hn⟩ := f.n
  exact ⟨⟨n, by rw [hn, upN_same h]⟩, by rw [← upF_same h]; exact f.f⟩
end Ve
end Go.Proofs.YtnkgjddkdikikaaGreatDoor
namespace Go.Proofs.YtnkgjddkdikikaaGreatDoor
open Go.RowKit
namespace Ve
theorem lat_univ {w : World} {v : Value} {Q : List Raw} {L : List Ent} (I : Ixs w v Q L) (hc : (chk Q L).1 = 0) {t : ByteArray} (ht : t ∈ phX Q) : (t, latV Q t) ∈ univ L := by
  obtain ⟨r, hr, e⟩ := phX_mem.1 ht
  obtain ⟨Y, hY⟩ := keptT_ex (good_of I hc) t
  exact lat_in I hc ⟨r.1, by rw [← univ_eq I]; exact List.mem_map.2 ⟨r, hr, rfl⟩, e⟩ hY
end Ve
end Go.Proofs.YtnkgjddkdikikaaGreatDoor
namespace Go.Proofs.YtnkgjddkdikikaaGreatDoor
open Go.RowKit
namespace Ve
def WhoC (T : World → Prop) : Prop := ∀ (Q : List Raw) (L : List Ent) (p : ByteArray) (v : Value) (A : Nat → Addr) (m : Int) (w : World), L.length ≤ 200 → (∀ e, e ∈ L → ShE e) → shQ Q → p.size ≤ 1000 → Te w A m → T w → Ixs w v Q L →
  Calls Tryz.prog 49 #[v, .string p] w fun e w' => ∃ u x, e = .returned (.tuple #[u, x]) ∧ MsAt w' u (whX Q L p) ∧ ErrAt w' A x (chk Q L).1 (chk Q L).2 ∧ Below w.heap.size w w'
end Ve
end Go.Proofs.YtnkgjddkdikikaaGreatDoor
namespace Go.Proofs.YtnkgjddkdikikaaGreatDoor
open Go.RowKit
namespace Ve
noncomputable def ltL (Q : List Raw) (X : List ByteArray) : List Bm := X.map fun t => (t, latV Q t)
theorem who_hv {w : World} {v : Value} {Q : List Raw} {L : List Ent} (I : Ixs w v Q L) (hc : (chk Q L).1 = 0) (hz : shQ Q) {p : ByteArray} {D : List Bm} (h : Falls plen (hvL Q L (ltL Q (phX Q)) p) D) : D = whX Q L p := by
  unfold whX
  rw [if_pos hc]
  refine falls_one h.down (whD_down 100) fun n => ?_
  rw [h.same n]
  have hN : ∀ n', szL plen n (whD Q L p (phX Q) n') = if 0 < n ∧ n ≤ n' then whN Q L p (phX Q) n else [] := by
    intro n'
    induction n' with
    | zero => rw [if_neg (by omega)]; rfl
    | succ k ih =>
      have hA : szL plen n (whN Q L p (phX Q) (k + 1)) = if n = k + 1 then whN Q L p (phX Q) n else [] := by
        unfold szL
        by_cases e : n = k + 1
        · rw [if_pos e, List.filter_eq_self.2 fun m hm => decide_eq_true (show m.1.size = n by rw [(whN_mem.1 hm).2.1, e]), e]
        · rw [if_neg e, List.filter_eq_nil_iff]
          intro m hm
          have := (whN_mem.1 hm).2.1
          simp only [decide_eq_true_eq]
          show ¬ m.1.size = n
          omega
      unfold whD
      have : szL plen n (whN Q L p (phX Q) (k + 1) ++ whD Q L p (phX Q) k) = szL plen n (whN Q L p (phX Q) (k + 1)) ++ szL plen n (whD Q L p (phX Q) k) := by unfold szL; rw [List.filter_append]
      rw [this, hA, ih]
      by_cases e : n = k + 1
      · rw [if_pos e, if_neg (by omega), if_pos (by omega), List.append_nil]
      · rw [if_neg e, List.nil_append]
        by_cases e2 : 0 < n ∧ n ≤ k
        · rw [if_pos e2, if_pos (by omega)]
        · rw [if_neg e2, if_neg (by omega)]
  have hL : szL plen n (hvL Q L (ltL Q (phX Q)) p) = whN Q L p (phX Q) n := by
    unfold szL hvL ltL whN
    rw [List.filter_map, List.filter_map, List.filter_filter]
    congr 1
  rw [hN, hL]
  by_cases e : 0 < n ∧ n ≤ 100
  · rw [if_pos e]
  · rw [if_neg e]
    refine List.eq_nil_iff_forall_not_mem.2 fun m hm => ?_
    obtain ⟨h1, h2, _⟩ := whN_mem.1 hm
    obtain ⟨r, hr, e1⟩ := phX_mem.1 h1
    have h3 := (hz r hr).1
    have h4 := path_pos ((good_of I hc).path r hr)
    rw [len_eq] at h4
    rw [e1] at h3 h4
    omega
theorem ltL_mem {Q : List Raw} {X : List ByteArray} {m : Bm} : m ∈ ltL Q X ↔ m.1 ∈ X ∧ m.2 = latV Q m.1 := by
  unfold ltL
  rw [List.mem_map]
  constructor
  · rintro ⟨t, ht, rfl⟩; exact ⟨ht, rfl⟩
  · rintro ⟨h1, h2⟩; exact ⟨m.1, h1, by rw [← h2]⟩
theorem ltL_nd {Q : List Raw} : ((ltL Q (phX Q)).map fun m => m.1).Nodup := by
  unfold ltL
  rw [List.map_map]
  have e : ((fun m : Bm => m.1) ∘ fun t => (t, latV Q t)) = id := rfl
  rw [e, List.map_id]
  exact (phX_ris Q).imp fun {a b} h e => by rw [e, lt_irrefl] at h; cases h
end Ve
end Go.Proofs.YtnkgjddkdikikaaGreatDoor
namespace Go.Proofs.YtnkgjddkdikikaaGreatDoor
open Go.RowKit Go.Maps
namespace Ve
theorem whN_len {Q : List Raw} {L : List Ent} {p : ByteArray} {X : List ByteArray} {n : Nat} : (whN Q L p X n).length ≤ X.length := by
  unfold whN
  rw [List.length_map]; exact List.length_filter_le _ _
theorem whD_len {Q : List Raw} {L : List Ent} {p : ByteArray} {X : List ByteArray} : ∀ n : Nat, (whD Q L p X n).length ≤ n * X.length
  | 0 => Nat.zero_le _
  | n + 1 => by
    have h1 := whN_len (Q := Q) (L := L) (p := p) (X := X) (n := n + 1)
    have h2 := whD_len (Q := Q) (L := L) (p := p) (X := X) n
    unfold whD
    rw [List.length_append, Nat.add_mul, Nat.one_mul]; omega
theorem wh_len {Q : List Raw} {L : List Ent} {p : ByteArray} (h : Q.length ≤ 1000) : (whX Q L p).length ≤ 1000000 := by
  unfold whX
  split
  · have h1 := whD_len (Q := Q) (L := L) (p := p) (X := phX Q) 100
    have h2 := fold_len (Z := pathL Q) (X := [])
    rw [pathL_len] at h2
    simp only [List.length_nil] at h2
    have h3 : (phX Q).length ≤ 1000 := by unfold phX; omega
    omega
  · exact Nat.zero_le _
end Ve
end Go.Proofs.YtnkgjddkdikikaaGreatDoor
namespace Go.Proofs.YtnkgjddkdikikaaGreatDoor
open Go.RowKit
namespace Ve
theorem ph_len (Q : List Raw) : (phX Q).length ≤ Q.length := by
  unfold phX
  have := fold_len (Z := pathL Q) (X := [])
  rw [pathL_len] at this
  simpa using this
theorem lt_next {Q : List Raw} {X : List ByteArray} {k : Nat} (hk : k < X.length) : ltL Q (X.take (k + 1)) = ltL Q (X.take k) ++ [(X[k], latV Q X[k])] := by
  unfold ltL
  rw [List.take_succ_eq_append_getElem hk, List.map_append]; rfl
theorem ltL_len (Q : List Raw) (X : List ByteArray) : (ltL Q X).length = X.length := by unfold ltL; rw [List.length_map]
set_option maxRecDepth 100000 in
set_option maxHeartbeats 4000000 in
theorem lts_any (Q : List Raw) (v : Value) (A : Nat → Addr) (m : Int) (w : World) (hL : Q.length ≤ 1000) (hq : shQ Q) (S : Te w A m) (htab : Lib.TabIs Tryz.prog w powName .u64 Lib.pow10Tab) (hv : EsAt w v Q) :
    Calls Tryz.prog 112 #[v] w fun e w' => ∃ u, e = .returned u ∧ w'.ownsRow w.heap.size 35 2 u (ltL Q (phX Q)).length (flatM (ltL Q (phX Q))) ∧ Below w.heap.size w w' := by
  have HPA := hid (paths_any Q v w hL hv)
  rw [show tx (risB (bl (pathL Q))) = phX Q from tx_ris _] at HPA
  have HLA := hid (fun t W (h : Below w.heap.size w W) => show Calls Tryz.prog 18 #[v, .string t] W fun e w' => e = .returned (.string (latV Q t)) ∧ Below W.heap.size W w' from
    (latest_any Q t v (A 0) (A 1) m W hL hq (S.below h).vs (tab_below htab h) (hv.below h)).mono fun e w' ⟨X, h1, h2, h3⟩ => ⟨by rw [h1, latV_of h2], h3⟩)
  have HNX := hid (fun k (hk : k < (phX Q).length) => lt_next (Q := Q) hk)
  have HLL := hid (fun k => show (ltL Q ((phX Q).take k)).length ≤ 1000 by rw [ltL_len, List.length_take]; have := ph_len Q; omega)
  have hpl : (phX Q).length ≤ 1000 := Nat.le_trans (ph_len Q) hL
  obtain ⟨a, c, hv1, -⟩ := id hv
  subst hv1
  obtain ⟨i0, hi0, hz0, hz1, hz2⟩ := info_parts infoMod
  clear S htab hv hq
  generalize phX Q = X at *
  go_enter Tryz.func112, Tryz.ntmps112
  go_wp2_with fail
  refine HPA.out.mono ?_
  rintro e w1 ⟨u, rfl, hu, hb⟩
  have HB1 := hid hb
  have HX1 := hid (own_tx hu)
  obtain ⟨ua, uc, hus⟩ := own_slN hu
  subst hus
  clear hu hb HPA
  go_wp2_with fail
  go_loopw [3, 9] (fun ov iv wr => ∃ i : Nat, i ≤ X.length ∧ iv = .int .i64 i ∧ Hid (wr.ownsRow w1.heap.size 35 2 ov (ltL Q (X.take i)).length (flatM (ltL Q (X.take i)))) ∧ Hid (Below w1.heap.size w1 wr)) (fun _ iv _ => X.length - (intOf iv).toNat)
  case atStart => exact ⟨0, Nat.zero_le _, rfl, hid (World.ownsRow_nil _ _ _ _), hid (Below.refl _ _)⟩
  case round =>
    obtain ⟨i, hi, rfl, HOW, HBr⟩ := hrel
    by_cases hlt : i < X.length
    · have hiI := ix_lt hlt
      have hii := ix_pos i
      have HLI := hid hlt
      obtain ⟨xb, xo, hxa, y9⟩ := tx_cellK HX1.out hlt
      subst hxa
      have y0 := cell_below HBr.out y9
      have HN := hid (HNX.out i hlt)
      have HLN := hid (HLL.out i)
      have HLT := hid (HLA.out X[i])
      generalize X[i] = x at *
      obtain ⟨SX, hSX⟩ : ∃ SX, ltL Q (X.take i) = SX := ⟨_, rfl⟩
      rw [hSX] at HOW HN HLN
      generalize latV Q x = lv at *
      clear hSX hlt y9
      go_wp2_with fail
      refine (HLT.out _ (HB1.out.trans (HBr.out.mono HB1.out.size))).mono ?_
      rintro e w2 ⟨rfl, hb⟩
      have HB2 := hid (HBr.out.trans (hb.mono HBr.out.size))
      have HO2 := hid (owns_below HOW.out hb)
      have hsx := HLN.out
      clear hb y0 HOW HLT
      go_wp2_with (at_builtin; refine wpList_append_own _ rfl _ _ 40 rfl w1.heap.size 35 i0 _ 2 32 Tryz.underlying40 hi0 hz0 hz1 hz2 rfl (by decide) _ _ _ rfl (HO2.out.alloc _) ⟨w2.heap.size, 0, none⟩ 1 1 [.string x, .string lv] rfl rfl ?c1 ?c2 ?c3 ?c4 ?c5 ?_)
      case c1 => exact World.news_of_block (cs := #[.string x, .string lv]) (heap_new _ _)
      case c2 => intro u hu; simp at hu; rcases hu with rfl | rfl <;> rfl
      case c3 => unfold maxLen; omega
      case c4 => omega
      case c5 => have := HB2.out.size; simp; omega
      intro v' w6 hown hgrow _
      have HR3 := hid (rel_app2 HB2.out.size HB2.out HO2.out (Below.refl _ _) hgrow)
      have HO4 := hid (show w6.ownsRow w1.heap.size 35 2 v' (SX ++ [(x, lv)]).length (flatM (SX ++ [(x, lv)])) by rw [List.length_append, flatM_app]; exact hown)
      clear hown hgrow
      go_wp2_with fail
      go_roundw
      case rel => exact ⟨i + 1, HLI.out, by first | exact nr_idx i | exact nx_idx HLI.out (by omega : X.length ≤ 1000000), by rw [HN.out]; exact HO4, HR3⟩
      case measure => first | exact nr_meas HLI.out | exact nx_meas HLI.out (by omega : X.length ≤ 1000000)
    · have hiI := ix_nlt hlt
      have HTR := hid (show X.take i = X from List.take_of_length_le (by omega))
      rw [HTR.out] at HOW
      clear hlt
      go_wp2_with fail
      go_ret
      exact ⟨_, rfl, own_baseN HOW.out HB1.out.size, HB1.out.trans (HBr.out.mono HB1.out.size)⟩
set_option maxRecDepth 100000 in
set_option maxHeartbeats 4000000 in
theorem pwho_any (Q : List Raw) (L : List Ent) (p : ByteArray) (v : Value) (A : Nat → Addr) (m : Int) (w : World) (hL : L.length ≤ 200) (sh : ∀ e, e ∈ L → ShE e) (hq : shQ Q) (S : Te w A m) (htab : Lib.TabIs Tryz.prog w powName .u64 Lib.pow10Tab) (I : Ixs w v Q L) :
    Calls Tryz.prog 49 #[v, .string p] w fun e w' => ∃ u x, e = .returned (.tuple #[u, x]) ∧ MsAt w' u (whX Q L p) ∧ ErrAt w' A x (chk Q L).1 (chk Q L).2 ∧ Below w.heap.size w w' := by
  have HIC := hid (icheck_any Q L v A m w (by omega) sh S I)
  obtain ⟨a, c, hv1, -⟩ := id I.es
  subst hv1
  by_cases hc : (chk Q L).1 = 0
  · have hqn : Q.length ≤ 1000 := by rw [I.ln]; omega
    have HLT := hid (fun W (h : Below w.heap.size w W) => lts_any Q _ A m W hqn hq (S.below h) (tab_below htab h) (I.es.below h))
    have hU : ∀ x, x ∈ ltL Q (phX Q) → x ∈ univ L := fun x hx => by
      obtain ⟨h1, h2⟩ := ltL_mem.1 hx
      have := lat_univ I hc h1
      rw [← h2] at this
      exact this
    have HHV := hid (fun u W (h : Below w.heap.size w W) (hm : MsAt W u (ltL Q (phX Q))) => hav_any Q L (ltL Q (phX Q)) p _ u W (by omega) sh (by rw [ltL_len]; have := ph_len Q; omega) (fun x hx => by
      obtain ⟨k, hk⟩ := (found_iff I x).1 (hU x hx)
      obtain ⟨hk2, _, h3, _⟩ := pk_is I hk
      refine ⟨?_, k, hk⟩
      rw [← h3]
      have := (hq _ (List.getElem_mem hk2)).1
      omega) (I.below h) hm (hv_few I hc hU ltL_nd p))
    have HWH := hid (fun D (h : Falls plen (hvL Q L (ltL Q (phX Q)) p) D) => who_hv I hc hq h)
    have HCC := hid hc
    clear S I hq sh hc htab hU
    generalize whX Q L p = WX at *
    generalize ltL Q (phX Q) = LX at *
    go_enter Tryz.func49, Tryz.ntmps49
    go_wp2_with fail
    refine HIC.out.mono ?_
    rintro e w1 ⟨x, rfl, he, hb⟩
    have HEE := hid he
    have HB1 := hid hb
    rcases he.kind with ⟨-, rfl⟩ | ⟨h0, -⟩
    · clear he hb HIC
      go_wp2_with fail
      refine (HLT.out w1 HB1.out).mono ?_
      rintro e w2 ⟨u, rfl, hu, hb⟩
      have HB2 := hid (HB1.out.trans (hb.mono HB1.out.size))
      have HEE2 := hid (HEE.out.below hb)
      have HH2 := hid (HHV.out u w2 HB2.out (own_ms hu))
      obtain ⟨ua, uc, hus⟩ := own_slN hu
      subst hus
      clear hu hb HLT HHV HB1 HEE
      go_wp2_with fail
      refine HH2.out.mono ?_
      rintro e w3 ⟨u, D, rfl, hfa, hM⟩
      have HB3 := hid (HB2.out.trans (hM.1.mono HB2.out.size))
      have HEE3 := hid (HEE2.out.below hM.1)
      have HM3 := hid hM.ms
      rw [HWH.out D hfa] at HM3
      obtain ⟨va, vc, hvs⟩ := hM.sl
      subst hvs
      clear hM hfa HH2
      go_wp2_with fail
      go_ret2
      exact ⟨_, _, rfl, HM3.out, HEE3.out, HB3.out⟩
    · exact absurd HCC.out h0
  · have hW : whX Q L p = [] := by unfold whX; rw [if_neg hc]
    rw [hW]
    have HCC := hid hc
    clear S I hq sh hc htab hW
    go_enter Tryz.func49, Tryz.ntmps49
    go_wp2_with fail
    refine HIC.out.mono ?_
    rintro e w1 ⟨x, rfl, he, hb⟩
    have HEE := hid he
    have HB1 := hid hb
    rcases he.kind with ⟨h0, -⟩ | ⟨-, T', ea, rfl⟩
    · exact absurd h0 HCC.out
    · clear he hb HIC
      go_wp2_with fail
      go_ret2
      exact ⟨_, _, rfl, ⟨none, 0, rfl, Nat.le_refl _, fun h => absurd rfl h⟩, HEE.out, HB1.out⟩
def TabP (w : World) : Prop := Lib.TabIs Tryz.prog w powName .u64 Lib.pow10Tab ∧ DsT w
theorem keep_tabP : StayK TabP := fun W W' h hb => ⟨tab_below h.1 hb, ds_stay W W' h.2 hb⟩
theorem pof_c : OfC TabP := fun Q L R p v rv A m w hL sh hq hR h19 hp S hT I hr => pof_any Q L R p v rv A m w hL sh hq hR h19 hp S (ds_of hT.2 S) I hr
theorem pall_c : AllC TabP := fun Q L R v rv A m w hL sh hq hR S _ I hr => pall_any Q L R v rv A m w hL sh hq hR S I hr
theorem pwho_c : WhoC TabP := fun Q L p v A m w hL sh hq _ S hT I => pwho_any Q L p v A m w hL sh hq S hT.1 I
end Ve
end Go.Proofs.YtnkgjddkdikikaaGreatDoor
