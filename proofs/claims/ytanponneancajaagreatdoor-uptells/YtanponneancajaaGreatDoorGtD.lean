/-
  What faulted of the statements answers of an error with its own number and place: true; the sum of the requirements.
-/
import Derived.Test.YtanponneancajaaGreatDoorCdA
import Derived.Test.YtanponneancajaaGreatDoorGtB
import Derived.Test.YtanponneancajaaGreatDoorGtC
import Derived.Test.YtanponneancajaaGreatDoorCode
import Derived.Test.YtanponneancajaaGreatDoorGtX
namespace Go.Proofs.YtanponneancajaaGreatDoor
open Go.RowKit Go.Maps
namespace Ve

set_option maxHeartbeats 1000000 in
theorem faulted2_any (A : Nat → Addr) (x : Value) (r : Nat × Option Nat) (w : World) (S : Er.Sen w A) (h : ErrAt w A x r.1 r.2) (hc : r.1 ≤ 10) :
    Calls Tryz.prog 39 #[x, faultV r] w fun e w' => e = .returned (.bool true) ∧ Below w.heap.size w w' := by
  obtain ⟨c, o⟩ := r
  have HB0 := hid ((Below.refl w.heap.size w).alloc (Nat.le_refl _) (.cells #[.int .i64 (c : Nat), .int .i64 (atOf o)] 64))
  have HC := hid (code_at2 A x c o _ (S.below HB0.out) (h.below HB0.out) hc)
  unfold faultV
  simp only
  generalize atOf o = y at *
  generalize (c : Int) = z at *
  have e1 : (z == z) = true := beq_self_eq_true z
  have e2 : (y == y) = true := beq_self_eq_true y
  clear S h hc
  go_enter Tryz.func39, Tryz.ntmps39
  go_wp2_with fail
  refine HC.out.mono ?_
  rintro e w1 ⟨rfl, hb⟩
  obtain ⟨⟨r0, r1⟩, rz⟩ := res2 (hb.mono (by simp))
  have HB := hid (HB0.out.trans (hb.mono HB0.out.size))
  clear hb
  cases hz : (z == 0)
  all_goals
    go_wp2_with fail
    go_ret
    exact ⟨rfl, HB.out⟩
theorem chkG_le (Q : List Raw) (L : List Ent) (roots : List Bm) : (chkG Q L roots).1 ≤ 10 := by
  unfold chkG
  split
  · exact chk_le _ _
  · exact codeE_le (nonE_le _ _)
/-- How many requirements modules have. -/
def sumM (req : Bm → List Bm) : List Bm → Nat
  | [] => 0
  | m :: X => (req m).length + sumM req X
theorem sumM_app (req : Bm → List Bm) : ∀ (X Y : List Bm), sumM req (X ++ Y) = sumM req X + sumM req Y
  | [], Y => by simp [sumM]
  | r :: X, Y => by
    have h := sumM_app req X Y
    simp only [List.cons_append, sumM, h]
    omega
theorem sumM_next (req : Bm → List Bm) {X : List Bm} {k : Nat} (hk : k < X.length) : sumM req (X.take (k + 1)) = sumM req (X.take k) + (req X[k]).length := by
  rw [List.take_succ_eq_append_getElem hk, sumM_app]
  simp [sumM]
theorem sumM_le (req : Bm → List Bm) (B : Nat) : ∀ (X : List Bm), (∀ r, r ∈ X → (req r).length ≤ B) → sumM req X ≤ X.length * B
  | [], _ => by simp [sumM]
  | r :: X, h => by
    have h1 := h r (by simp)
    have h2 := sumM_le req B X fun x hx => h x (by simp [hx])
    have h3 : sumM req (r :: X) = (req r).length + sumM req X := rfl
    rw [h3, List.length_cons, Nat.succ_mul]
    omega
theorem sumM_take_le (req : Bm → List Bm) (X : List Bm) (k B : Nat) (h : ∀ r, r ∈ X → (req r).length ≤ B) : sumM req (X.take k) ≤ X.length * B := by
  have h1 := sumM_le req B (X.take k) fun r hr => h r (List.mem_of_mem_take hr)
  have h2 : (X.take k).length ≤ X.length := by rw [List.length_take]; omega
  exact Nat.le_trans h1 (Nat.mul_le_mul_right B h2)
theorem sumR_M (req : Bm → List Bm) : ∀ (X : List Raw), (∀ r, r ∈ X → lenV r.2.1 = (req r.1).length) → sumR X = sumM req (X.map fun r => r.1)
  | [], _ => rfl
  | r :: X, h => by
    have h1 := h r (by simp)
    have h2 := sumR_M req X fun x hx => h x (by simp [hx])
    simp only [List.map_cons, sumR, sumM, h1, h2]
theorem len_req {w : World} {v : Value} {Q : List Raw} {L : List Ent} (I : Ixs w v Q L) (h : (chk Q L).1 = 0) : ∀ r, r ∈ Q → lenV r.2.1 = (reqQ Q L r.1).length := fun r hr => by
  obtain ⟨k, hk, rfl⟩ := List.getElem_of_mem hr
  have hk' : k < L.length := by rw [← I.ln]; exact hk
  have hu : k < (univ L).length := by rw [univ_len]; exact hk'
  rw [lenV_ms (I.ok k hk hk').rq, ← req_at I h hk' hu]
  rw [show (univ L)[k] = Q[k].1 by rw [(I.ok k hk hk').m]; simp [univ]]
theorem edges_sum {w : World} {v : Value} {Q : List Raw} {L : List Ent} (I : Ixs w v Q L) (h : (chk Q L).1 = 0) (T : By) : sumR (goQ T Q) = sumM (reqQ Q L) (goM T Q) :=
  sumR_M _ _ fun r hr => len_req I h r (List.mem_filter.1 hr).1
end Ve
end Go.Proofs.YtanponneancajaaGreatDoor
