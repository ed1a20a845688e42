/-
  What has and IsUnder of the document's answer say; what rises of the statements says.
-/
import Derived.Test.YtjhiajeeijfkeaaGreatDoorDn6
import Derived.Test.YtjhiajeeijfkeaaGreatDoorDn3
import Derived.Test.YtjhiajeeijfkeaaGreatDoorDn4
import Derived.Test.YtjhiajeeijfkeaaGreatDoorCode
import Derived.Deep.RegionHeld
import Derived.Deep.DeepCutAuto
import Derived.Test.YtjhiajeeijfkeaaGreatDoorDn1
import Derived.Deep.SlicePairs
import Derived.Lib.SmallJoins
import Derived.SliceStrings
import Derived.ProofKit
import Derived.LaidMore
import Derived.Lay
import Derived.Stop.Joined
import Derived.HandedShaped
namespace Go.Proofs.YtjhiajeeijfkeaaGreatDoor
open Go.RowKit Go.Maps
namespace Ve

theorem fpOf_kind (L : List Bm) (p : ByteArray) : (fpOf L p = -1 ∧ ∀ x, x ∈ L → decide (x.1 = p) = false) ∨ ∃ k, ∃ hk : k < L.length, fpOf L p = (k : Int) ∧ decide (L[k].1 = p) = true ∧ ∀ j (hj : j < L.length), j < k → decide (L[j].1 = p) = false := by
  unfold fpOf
  cases h : fstE (fpE L p) L.length with
  | none =>
    refine Or.inl ⟨rfl, fun x hx => decide_eq_false fun e => ?_⟩
    obtain ⟨j, hj, rfl⟩ := List.getElem_of_mem hx
    have := fstE_of_none h j hj
    rw [fpE_at hj, if_pos e] at this; cases this
  | some k =>
    obtain ⟨h1, h2, h3⟩ := fstE_of_some h
    refine Or.inr ⟨k, h1, rfl, decide_eq_true ?_, fun j hj hjk => decide_eq_false fun e => ?_⟩
    · rw [fpE_at h1] at h2
      by_cases e : L[k].1 = p
      · exact e
      · rw [if_neg e] at h2; exact absurd rfl h2
    · have := h3 j hjk
      rw [fpE_at hj, if_pos e] at this; cases this
end Ve
end Go.Proofs.YtjhiajeeijfkeaaGreatDoor

/-
  What is built, plain: what it has.
-/
namespace Go.Proofs.YtjhiajeeijfkeaaGreatDoor
open Go.RowKit Go.Maps
namespace Ve

theorem rX_mem {w : World} {v : Value} {Q : List Raw} {L : List Ent} {roots : List Bm} (I : Ixs w v Q L) (h : (chkG Q L roots).1 = 0) {m : Bm} : m ∈ rX Q L roots ↔ Rch (reqQ Q L) roots m := by
  unfold rX
  rw [if_pos h, List.mem_filter]
  constructor
  · rintro ⟨_, h1⟩; simpa using h1
  · intro h1; exact ⟨rch_univ I h h1, by simpa using h1⟩
theorem bX_univ {Q : List Raw} {L : List Ent} {roots : List Bm} : ∀ m, m ∈ bX Q L roots → m ∈ univ L := fun m hm => (rX_in ((bX_jn Q L roots).sub m hm).1).2
theorem bX_over {w : World} {v : Value} {Q : List Raw} {L : List Ent} {roots A : List Bm} (I : Ixs w v Q L) (h : (chkG Q L roots).1 = 0) (hA : ∀ m, m ∈ A → Rch (reqQ Q L) roots m) : undB A (bX Q L roots) = true :=
  (bX_jn Q L roots).over fun m hm => ⟨(rX_mem I h).2 (hA m hm), univ_right (chkG_chk h) m (rch_univ I h (hA m hm))⟩
theorem bX_in {w : World} {v : Value} {Q : List Raw} {L : List Ent} {roots : List Bm} (I : Ixs w v Q L) (h : (chkG Q L roots).1 = 0) {m : Bm} (hm : m ∈ bX Q L roots) : Rch (reqQ Q L) roots m := (rX_mem I h).1 ((bX_jn Q L roots).sub m hm).1
/-- A selection of the index. -/
structure Sl (L : List Ent) (E : List Bm) : Prop where
  ri : rising E
  un : ∀ m, m ∈ E → m ∈ univ L
theorem bX_sl (Q : List Raw) (L : List Ent) (roots : List Bm) : Sl L (bX Q L roots) := ⟨(bX_jn Q L roots).ri, bX_univ⟩
end Ve
end Go.Proofs.YtjhiajeeijfkeaaGreatDoor

/-
  What capped of the statements answers; the closed fact of chapter 8 (lowered).
-/
namespace Go.Proofs.YtjhiajeeijfkeaaGreatDoor
open Go.RowKit Go.Maps
namespace Ve

set_option maxRecDepth 100000 in
set_option maxHeartbeats 2000000 in
/-- pewholderlaw2.capped. -/
theorem capped_any (B : List Bm) (m : Bm) (v : Value) (w : World) (hB : B.length ≤ 1000000) (hs : ∀ x, x ∈ B → x.2.size < 999999) (hm : m.2.size < 999999) (hv : MsAt w v B) :
    Calls Tryz.prog 13 #[v, .agg #[.string m.1, .string m.2]] w fun e w' => e = .returned (.bool (capB B m)) ∧ Below w.heap.size w w' := by
  obtain ⟨p, q⟩ := m
  simp only at hm
  have HB0 := hid ((Below.refl w.heap.size w).alloc (Nat.le_refl _) (.cells #[.string p, .string q] 36))
  have HF := hid (fp_is B p v _ hB (hv.below HB0.out))
  obtain ⟨va, vc, hv1, _, hvc⟩ := id hv
  subst hv1
  rcases fpOf_kind B p with ⟨e1, h2⟩ | ⟨k, hk, e1, h2, h3⟩
  · have HX := hid (capB_none (m := (p, q)) fun c hc => of_decide_eq_false (h2 c hc))
    rw [e1] at HF
    clear hv hvc e1 h2
    go_enter Tryz.func13, Tryz.ntmps13
    go_wp2_with fail
    refine HF.out.mono ?_
    rintro e w1 ⟨rfl, rfl⟩
    go_wp2_with fail
    go_ret
    exact ⟨ret_bool (by rw [HX.out]), HB0.out⟩
  · have HX := hid (capB_at (m := (p, q)) (atP_first hk (of_decide_eq_true h2) fun j hj hjk => of_decide_eq_false (h3 j hj hjk)))
    rw [e1] at HF
    obtain ⟨bb, o, hva, hcell⟩ := hvc (fun e => by rw [e] at hk; exact absurd hk (Nat.not_lt_zero _))
    subst hva
    have HC := hid (hcell k hk)
    have hz := hs B[k] (List.getElem_mem hk)
    have hk0 : ¬ (k : Int) < 0 := by omega
    have hkI : (k : Int) < (B.length : Int) := by omega
    have hkJ : (0 : Int) ≤ (k : Int) := by omega
    generalize B[k] = x at *
    obtain ⟨x1, x2⟩ := x
    simp only at hz
    have HL := hid (fun W => isLess_any x2 q W hz hm)
    have y0 := cell_below HB0.out HC.out.1
    have y1 := cell_below HB0.out HC.out.2
    have HXX := hid (show capB B (p, q) = (decide (x2.data.toList = noneL) || lessB x2.data.toList q.data.toList) from HX.out)
    generalize lessB x2.data.toList q.data.toList = z at *
    obtain ⟨nb, hnb, hnd⟩ : ∃ nb : Bool, (x2.toList == [110, 111, 110, 101]) = nb ∧ decide (x2.data.toList = noneL) = nb := by
      by_cases h : x2.data.toList = noneL
      · exact ⟨true, by rw [ByteArray.toList_eq]; exact beq_iff_eq.2 h, decide_eq_true h⟩
      · exact ⟨false, by rw [ByteArray.toList_eq]; exact beq_eq_false_iff_ne.2 h, decide_eq_false h⟩
    rw [hnd] at HXX
    clear hv hvc e1 h2 h3 hcell hs HX hnd
    go_enter Tryz.func13, Tryz.ntmps13
    go_wp2_with fail
    refine HF.out.mono ?_
    rintro e w1 ⟨rfl, rfl⟩
    obtain ⟨Wa, hWa⟩ : ∃ Wa, w.alloc (.cells #[.string p, .string q] 36) = Wa := ⟨_, rfl⟩
    have b0 : Wa.cell? ⟨w.heap.size, 0, none⟩ = some (.string p) := by rw [← hWa]; simp
    have b1 : Wa.cell? ⟨w.heap.size, 1, none⟩ = some (.string q) := by rw [← hWa]; simp
    rw [hWa] at HB0 y0 y1 ⊢
    have HT := hid (fun W' (hW : Below Wa.heap.size Wa W') => (show (fun W' => W'.cell? ⟨bb, o + k * 2, none⟩ = some (.string x1) ∧ W'.cell? ⟨bb, o + k * 2 + 1, none⟩ = some (.string x2) ∧ W'.cell? ⟨w.heap.size, 0, none⟩ = some (.string p) ∧ W'.cell? ⟨w.heap.size, 1, none⟩ = some (.string q) ∧ Hid (Below Wa.heap.size Wa W')) W' from ⟨cell_below hW y0, cell_below hW y1, cell_below hW b0, cell_below hW b1, hid hW⟩))
    clear hWa
    go_wp2_with fail
    go_region_held (fun W' => W'.cell? ⟨bb, o + k * 2, none⟩ = some (.string x1) ∧ W'.cell? ⟨bb, o + k * 2 + 1, none⟩ = some (.string x2) ∧ W'.cell? ⟨w.heap.size, 0, none⟩ = some (.string p) ∧ W'.cell? ⟨w.heap.size, 1, none⟩ = some (.string q) ∧ Hid (Below Wa.heap.size Wa W')) (first | exact HT.out _ HRa.out | exact HT.out _ (below_drawn _ 1)) (first
      | (go_at_call 15; refine (HL.out _).mono ?_; rintro e w' ⟨rfl, hb⟩; have HRa := hid ((below_drawn Wa 1).trans (hb.mono (Nat.le_refl _))); clear hb))
    all_goals
      have HB := hid (HB0.out.trans (HRa.out.mono HB0.out.size))
      obtain ⟨u0, u1, -, -, -⟩ := HT.out _ HRa.out
      clear y0 y1 b0 b1
      cases z
      · go_wp2_with fail
        go_ret
        exact ⟨ret_bool (by rw [HXX.out, Bool.or_false]), HB.out⟩
      · go_wp2_with fail
        go_ret
        exact ⟨ret_bool (by rw [HXX.out, Bool.or_true]), HB.out⟩
/-- What the roots become is as its plain words say. -/
theorem toL_tw {Q : List Raw} {L : List Ent} {roots caps : List Bm} (h : (tF Q L roots caps).1 = 0) : Tw (Bd (reqQ Q L) caps) (univ L) roots (toL Q L roots caps) := by
  obtain ⟨h1, h2⟩ := tF_ok h
  obtain ⟨k0, k1⟩ := bF_chk h1
  exact tw_sel ⟨univ_rises k0, univ_right k0⟩ (by rw [bdL_len, univ_len]) (fun i h h' => bdL_at h h') roots
theorem ms_one1 {W : World} {b : Nat} {x : Bm} {fr : Nat × Nat} (h : W.heap[b]? = some (.cells #[.string x.1, .string x.2] 36 fr)) : MsAt W (.slice (some ⟨b, 0, none⟩) 1 1) [x] := by
  refine ⟨_, 1, rfl, Nat.le_refl _, fun _ => ⟨b, 0, rfl, fun j hj => ?_⟩⟩
  have : j = 0 := by simp at hj; exact hj
  subst this
  exact ⟨by rw [Lib.cell_of_heap h]; rfl, by rw [Lib.cell_of_heap h]; rfl⟩
def mbN : Bm := (⟨#[98]⟩, ⟨#[110, 111, 110, 101]⟩)
theorem lo_caps : (chkP [mbN]).1 = 0 := by kernel_rfl
theorem lo_tF (g : Nat) : (tF (smQ g) smL [ma1] [mbN]).1 = 0 := by
  have h1 : bF (smQ g) smL [mbN] = chkP [mbN] := if_pos (by rw [sm_chk])
  have h2 : (bF (smQ g) smL [mbN]).1 = 0 := by rw [h1]; exact lo_caps
  unfold tF
  rw [if_pos h2]
  exact sm_chkG g
theorem lo_c0 : capB [mbN] ma0 = false := by kernel_rfl
theorem lo_cb : capB [mbN] mb0 = true := by kernel_rfl
theorem lo_r0 (g : Nat) : reqQ (smQ g) smL ma0 = [] := by kernel_rfl
theorem lo_less : lessB (vb ma1) (vb ma0) = false := by kernel_rfl
theorem lo_ab : mb0.1 ≠ ma1.1 := fun e => absurd (congrArg (fun m : ByteArray => m.data) e) (by decide)
theorem lo_good {g : Nat} : ¬ Bd (reqQ (smQ g) smL) [mbN] ma0 := fun h => by
  rcases bd_iff.1 h with h | ⟨r, h, _⟩
  · rw [lo_c0] at h; cases h
  · rw [lo_r0] at h; cases h
theorem lo_bad {g : Nat} : Bd (reqQ (smQ g) smL) [mbN] ma1 :=
  bd_iff.2 (Or.inr ⟨mb0, by rw [sm_r1]; simp, bd_iff.2 (Or.inl lo_cb)⟩)
theorem lo_lw {g : Nat} : Lw (Bd (reqQ (smQ g) smL) [mbN]) (univ smL) ma1 ma0 := by
  refine ⟨by simp [univ, smL], rfl, lo_less, lo_good, fun y hy e _ hb => ?_⟩
  have : y = ma0 ∨ y = ma1 ∨ y = mb0 := by simpa [univ, smL] using hy
  rcases this with rfl | rfl | rfl
  · exact lessB_irr _
  · exact absurd lo_bad hb
  · exact absurd e lo_ab
theorem lo_to (g : Nat) : toL (smQ g) smL [ma1] [mbN] = [ma0] := by
  have h := toL_tw (lo_tF g)
  have u : Un (univ smL) := ⟨univ_rises (Q := smQ g) (by rw [sm_chk]), univ_right (Q := smQ g) (by rw [sm_chk])⟩
  refine h.one ⟨List.pairwise_singleton _ _, fun x => ⟨fun hx => ⟨ma1, by simp, by rw [List.mem_singleton.1 hx]; exact lo_lw⟩, fun ⟨r, hr, hw⟩ => ?_⟩⟩
  rw [List.mem_singleton.1 hr] at hw
  rw [hw.same u lo_lw]; simp
set_option maxRecDepth 100000 in
set_option maxHeartbeats 4000000 in
/-- pewholderlaw2.lowered. -/
theorem low_any (A : Nat → Addr) (m : Int) (w : World) (S : Te w A m) : Calls Tryz.prog 6 #[] w fun e w' => e = .returned (.bool true) ∧ Below w.heap.size w w' := by
  have HSM := hid smallI_any
  have HS := hid S
  clear S
  go_enter Tryz.func6, Tryz.ntmps6
  go_wp2_with fail
  refine (HSM.out w).mono ?_
  rintro e w1 ⟨g, q, rfl, hix, hb⟩
  have hBa := (Below.refl w1.heap.size w1).alloc (Nat.le_refl _) (.cells #[.string ⟨#[97]⟩, .string ⟨#[118, 49, 46, 49, 46, 48]⟩] 36)
  have hBb := hBa.alloc hBa.size (.cells #[.string ⟨#[98]⟩, .string ⟨#[110, 111, 110, 101]⟩] 36)
  have hB1 := hb.trans (hBb.mono hb.size)
  have n1 := heap_old (w1.alloc (.cells #[.string ⟨#[97]⟩, .string ⟨#[118, 49, 46, 49, 46, 48]⟩] 36)) (.cells #[.string ⟨#[98]⟩, .string ⟨#[110, 111, 110, 101]⟩] 36) (heap_new w1 (.cells #[.string ⟨#[97]⟩, .string ⟨#[118, 49, 46, 49, 46, 48]⟩] 36))
  have n2 := heap_new (w1.alloc (.cells #[.string ⟨#[97]⟩, .string ⟨#[118, 49, 46, 49, 46, 48]⟩] 36)) (.cells #[.string ⟨#[98]⟩, .string ⟨#[110, 111, 110, 101]⟩] 36)
  have hz : (w1.alloc (.cells #[.string ⟨#[97]⟩, .string ⟨#[118, 49, 46, 49, 46, 48]⟩] 36)).heap.size = w1.heap.size + 1 := by simp
  rw [hz] at n2
  have HTO := hid (to_good (smQ g) smL [ma1] [mbN] _ (.slice (some ⟨w1.heap.size, 0, none⟩) 1 1) (.slice (some ⟨w1.heap.size + 1, 0, none⟩) 1 1) A m _ (by decide) (by decide) (by decide) sm_sh (fun x hx => by
    rw [List.mem_singleton.1 hx]
    exact ⟨show mbN.1.size < 999999 by decide, show mbN.2.size < 999999 by decide⟩) (HS.out.below hB1) (hix.below hBb) (ms_one1 (x := ma1) n1) (ms_one1 (x := mbN) n2) (lo_tF g))
  rw [lo_to] at HTO
  have HB1 := hid hB1
  clear hix hb hBa hBb hB1 n1 n2 hz
  go_wp2_with fail
  refine HTO.out.mono ?_
  rintro e w2 ⟨u, rfl, ho, hb⟩
  have HB2 := hid (HB1.out.trans (hb.mono HB1.out.size))
  obtain ⟨ug, uc, hu, -, -, hmw⟩ := own_mw ho hb (by simp)
  have k1 : w2.cell? ⟨ug, 1, none⟩ = some (.string ⟨#[118, 49, 46, 48, 46, 48]⟩) := hmw.c1 0 (by decide)
  have s1 : ((⟨#[118, 49, 46, 48, 46, 48]⟩ : ByteArray).toList == (⟨#[118, 49, 46, 48, 46, 48]⟩ : ByteArray).toList) = true := by simp
  rw [show ([ma0] : List Bm).length = 1 from rfl] at hu
  subst hu
  clear ho hb hmw HTO
  go_wp2_with fail
  go_ret
  exact ⟨rfl, HB2.out⟩
end Ve
end Go.Proofs.YtjhiajeeijfkeaaGreatDoor

/-
  What graph.Edges answers.
-/
namespace Go.Proofs.YtjhiajeeijfkeaaGreatDoor
open Go.RowKit Go.Maps
namespace Ve

/-- How long a slice is. -/
def lenV : Value → Nat
  | .slice _ n _ => n
  | _ => 0
/-- How many requirements there are in all. -/
def sumR : List Raw → Nat
  | [] => 0
  | r :: X => lenV r.2.1 + sumR X
theorem sumR_app : ∀ (X Y : List Raw), sumR (X ++ Y) = sumR X + sumR Y
  | [], Y => by simp [sumR]
  | r :: X, Y => by rw [List.cons_append]; show lenV r.2.1 + sumR (X ++ Y) = lenV r.2.1 + sumR X + sumR Y; rw [sumR_app X Y]; omega
theorem sumR_next {X : List Raw} {k : Nat} (hk : k < X.length) : sumR (X.take (k + 1)) = sumR (X.take k) + lenV X[k].2.1 := by
  rw [List.take_succ_eq_append_getElem hk, sumR_app]
  simp [sumR]
theorem sumR_le (B : Nat) : ∀ (X : List Raw), (∀ r, r ∈ X → lenV r.2.1 ≤ B) → sumR X ≤ X.length * B
  | [], _ => by simp [sumR]
  | r :: X, h => by
    have h1 := h r (by simp)
    have h2 := sumR_le B X fun x hx => h x (by simp [hx])
    have h3 : sumR (r :: X) = lenV r.2.1 + sumR X := rfl
    rw [h3, List.length_cons, Nat.succ_mul]
    omega
theorem sumR_take_le (X : List Raw) (k : Nat) (B : Nat) (h : ∀ r, r ∈ X → lenV r.2.1 ≤ B) : sumR (X.take k) ≤ X.length * B := by
  have h1 := sumR_le B (X.take k) fun r hr => h r (List.mem_of_mem_take hr)
  have h2 : (X.take k).length ≤ X.length := by rw [List.length_take]; omega
  exact Nat.le_trans h1 (Nat.mul_le_mul_right B h2)
theorem lenV_ms {w : World} {v : Value} {R : List Bm} (h : MsAt w v R) : lenV v = R.length := by
  obtain ⟨a, c, e, -⟩ := h
  rw [e]; rfl
theorem Ixs.lenR {w : World} {v : Value} {Q : List Raw} {L : List Ent} (I : Ixs w v Q L) (sh : ∀ e, e ∈ L → ShE e) : ∀ r, r ∈ Q → lenV r.2.1 ≤ 1000000 := fun r hr => by
  obtain ⟨k, hk, rfl⟩ := List.getElem_of_mem hr
  have hk' : k < L.length := by rw [← I.ln]; exact hk
  rw [lenV_ms (I.ok k hk hk').rq]
  exact (sh _ (List.getElem_mem hk')).rn
theorem sum_idx {s n : Nat} (h : s + n ≤ 2000000000) : Value.int .i64 (wrap64 ((s : Int) + (n : Int))) = .int .i64 ((s + n : Nat) : Int) := by
  rw [IntWalk.wrap64_in _ (by omega)]; rfl
end Ve
end Go.Proofs.YtjhiajeeijfkeaaGreatDoor

/-
  How far the document's answer says that one is off (FarOf).
-/
namespace Go.Proofs.YtjhiajeeijfkeaaGreatDoor
open Go.RowKit Go.Maps
namespace Ve

theorem rch_uni {w : World} {v : Value} {Q : List Raw} {L : List Ent} {roots : List Bm} (I : Ixs w v Q L) (h : (chkG Q L roots).1 = 0) {m : Bm} (hm : Rch (reqQ Q L) roots m) : m ∈ univ L := by
  have r := rgt_of I h
  induction hm with
  | root hr => exact r.r _ hr
  | step _ hr ih => exact chk_reqs0 I r.c _ ih _ hr
/-- Numbers in memory. -/
def iwc (F : List Nat) : Array Value := (F.map fun n : Nat => Value.int .i64 (n : Int)).toArray
theorem iwc_set (F : List Nat) (a n : Nat) : (iwc F).setIfInBounds a (.int .i64 (n : Int)) = iwc (F.set a n) := by
  unfold iwc
  rw [List.setIfInBounds_toArray, List.map_set]
theorem iwc_at {W : World} {g : Nat} {F : List Nat} (h : W.heap[g]? = some (.cells (iwc F) 3 (0, 0))) {a : Nat} (ha : a < F.length) : W.cell? ⟨g, a, none⟩ = some (.int .i64 (F[a] : Int)) := by
  rw [Lib.cell_of_heap h]
  simp [iwc, ha]
theorem made_ints (n : Nat) : madeCells (Value.int .i64 0).cells n = iwc (List.replicate n 0) := by
  unfold madeCells iwc
  simp [Value.cells]
  apply Array.ext
  · simp
  · intro i h1 h2
    simp [Nat.mod_one]
theorem make_ints (n : Nat) (w : World) (hn : n ≤ 1000000) : (Instr.makeSlice 110 (.int .i64 (n : Int)) (.int .i64 (n : Int))).run Tryz.prog w = .ok (.slice (some ⟨w.heap.size, 0, none⟩) n n) (w.alloc (.cells (iwc (List.replicate n 0)) 3)) := by
  obtain ⟨i0, hi, hz0, hz1, hz2⟩ := info_parts infoInt
  have h := run_makeSlice (P := Tryz.prog) w 110 3 i0 (.int .i64 0) Tryz.underlying110 hi hz0 .i64 .i64 (n : Int) (n : Int) (by omega) (by omega) (by rw [hz1]; simp; omega) (by rw [hz2]; omega) (by omega)
  rw [hz1] at h
  simp only [Int.toNat_natCast, Nat.mul_one] at h
  rw [made_ints] at h
  exact h
/-- How far, in memory. -/
structure Fas (w W : World) (g : Nat) (Q : List Raw) (L : List Ent) (roots : List Bm) (n i : Nat) (F : List Nat) : Prop where
  gg : w.heap.size = g
  bl : Below w.heap.size w W
  hp : W.heap[g]? = some (.cells (iwc F) 3 (0, 0))
  ok : Fr (reqQ Q L) (univ L) roots n i F
theorem Fas.below {w W W' : World} {g : Nat} {Q : List Raw} {L : List Ent} {roots : List Bm} {n i : Nat} {F : List Nat} (h : Fas w W g Q L roots n i F) (hb : Below W.heap.size W W') : Fas w W' g Q L roots n i F :=
  ⟨h.gg, h.bl.trans (hb.mono h.bl.size), (hb.block _ (lt_of_blk h.hp)).trans h.hp, h.ok⟩
theorem Fas.fr {w W : World} {g : Nat} {Q : List Raw} {L : List Ent} {roots : List Bm} {n i n' i' : Nat} {F : List Nat} (h : Fas w W g Q L roots n i F) (hf : Fr (reqQ Q L) (univ L) roots n' i' F) : Fas w W g Q L roots n' i' F := ⟨h.gg, h.bl, h.hp, hf⟩
theorem Fas.put {w W : World} {g : Nat} {Q : List Raw} {L : List Ent} {roots : List Bm} {n i k : Nat} {F : List Nat} (h : Fas w W g Q L roots n i F) {a : Nat} {x : Value} (hx : x = .int .i64 (k : Int)) (hf : Fr (reqQ Q L) (univ L) roots n i (F.set a k)) : Fas w (W.setCell ⟨g, a, none⟩ x) g Q L roots n i (F.set a k) :=
  ⟨h.gg, h.bl.setCell (by rw [h.gg]; exact Nat.le_refl _) _, by rw [set_block h.hp, hx, iwc_set], hf⟩
/-- Was it come to? -/
def AtF (U : List Bm) (F : List Nat) (m : Bm) : Prop := ∃ a, ∃ h : a < U.length, ∃ h' : a < F.length, U[a] = m ∧ F[a] ≠ 0
theorem AtF.set {U : List Bm} {F : List Nat} {m : Bm} (h : AtF U F m) (a n : Nat) : AtF U (F.set a (n + 1)) m := by
  obtain ⟨k, hk, hk', e1, e2⟩ := h
  refine ⟨k, hk, by rw [List.length_set]; exact hk', e1, ?_⟩
  by_cases hka : a = k
  · subst hka; rw [List.getElem_set_self]; omega
  · rw [List.getElem_set_ne hka]; exact e2
theorem AtF.new {U : List Bm} {F : List Nat} {a : Nat} (n : Nat) (ha : a < U.length) (hl : F.length = U.length) : AtF U (F.set a (n + 1)) U[a] :=
  ⟨a, ha, by rw [List.length_set, hl]; exact ha, rfl, by rw [List.getElem_set_self]; omega⟩
theorem AtF.at {U : List Bm} {F : List Nat} (hN : U.Nodup) {j : Nat} (hj : j < U.length) (hj' : j < F.length) (h : AtF U F U[j]) : F[j] ≠ 0 := by
  obtain ⟨k, hk, hk', e1, e2⟩ := h
  have hp := List.pairwise_iff_getElem.1 hN
  have : k = j := by
    rcases Nat.lt_trichotomy k j with h1 | h1 | h1
    · exact absurd e1 (hp k j hk hj h1)
    · exact h1
    · exact absurd e1.symm (hp j k hj hk h1)
  subst this
  exact e2
/-- What FarOf answers. -/
def FarR (Q : List Raw) (L : List Ent) (roots : List Bm) (m : Bm) (d : Nat) (f : Value) : Prop :=
  (¬ Rch (reqQ Q L) roots m ∧ d = 0 ∧ f = .agg #[.int .i64 5, .int .i64 (-1)]) ∨ (Dst (reqQ Q L) roots m d ∧ f = .agg #[.int .i64 0, .int .i64 (-1)])
end Ve
end Go.Proofs.YtjhiajeeijfkeaaGreatDoor

/-
  What faulted of the statements answers of an error with its own number and place: true; the sum of the requirements.
-/
namespace Go.Proofs.YtjhiajeeijfkeaaGreatDoor
open Go.RowKit Go.Maps
namespace Ve

theorem code_at2 (A : Nat → Addr) (x : Value) (c : Nat) (o : Option Nat) (w : World) (S : Er.Sen w A) (h : ErrAt w A x c o) (hc : c ≤ 10) :
    Calls Tryz.prog 33 #[x] w fun e w' => e = .returned (.tuple #[.int .i64 (c : Nat), .int .i64 (atOf o)]) ∧ Below w.heap.size w w' := by
  cases o with
  | none =>
    have h : x = errA A c := h
    subst h
    cases c with
    | zero => exact (Er.code_nil w).mono fun e w' h => ⟨h.1, by rw [h.2]; exact Below.refl _ _⟩
    | succ j => exact Er.code_sen A j w S (by omega)
  | some i =>
    obtain ⟨h0, b, rfl, h1, h2⟩ := h
    obtain ⟨j, rfl⟩ : ∃ j, c = j + 1 := ⟨c - 1, by omega⟩
    rw [errA_if A h0] at h2
    exact Er.code_fault b 0 i A j w S (by omega) (lt_of_cell h1) h1 h2
set_option maxHeartbeats 1000000 in
theorem faulted2_any (A : Nat → Addr) (x : Value) (r : Nat × Option Nat) (w : World) (S : Er.Sen w A) (h : ErrAt w A x r.1 r.2) (hc : r.1 ≤ 10) :
    Calls Tryz.prog 16 #[x, faultV r] w fun e w' => e = .returned (.bool true) ∧ Below w.heap.size w w' := by
  obtain ⟨c, o⟩ := r
  have HB0 := hid ((Below.refl w.heap.size w).alloc (Nat.le_refl _) (.cells #[.int .i64 (c : Nat), .int .i64 (atOf o)] 42))
  have HC := hid (code_at2 A x c o _ (S.below HB0.out) (h.below HB0.out) hc)
  unfold faultV
  simp only
  generalize atOf o = y at *
  generalize (c : Int) = z at *
  have e1 : (z == z) = true := beq_self_eq_true z
  have e2 : (y == y) = true := beq_self_eq_true y
  clear S h hc
  go_enter Tryz.func16, Tryz.ntmps16
  go_wp2_with fail
  refine HC.out.mono ?_
  rintro e w1 ⟨rfl, hb⟩
  obtain ⟨⟨r0, r1⟩, rz⟩ := res2 (hb.mono (by simp))
  have HB := hid (HB0.out.trans (hb.mono HB0.out.size))
  clear hb
  cases hz : (z == 0)
  all_goals
    go_wp2_with fail
    go_ret
    exact ⟨rfl, HB.out⟩
theorem modErr_err (p v : List UInt8) : modErr p v = 0 ∨ modErr p v = 1 ∨ modErr p v = 2 ∨ modErr p v = 4 := by
  unfold modErr
  by_cases h0 : pathErr p = 0
  · rw [if_pos h0]
    by_cases h1 : verErr v = 0
    · rw [if_pos h1]
      cases fitsB (nAt v 0) (pathN p)
      · right; right; right; rfl
      · left; rfl
    · rw [if_neg h1]
      rcases verErr_err v with h | h | h <;> omega
  · rw [if_neg h0]; exact pathErr_err p
theorem mErr_le (m : Bm) : mErr m ≤ 10 := by
  have := modErr_err m.1.data.toList m.2.data.toList
  unfold mErr; omega
theorem reqE_le (own : ByteArray) (L : List Bm) (i : Nat) : reqE own L i ≤ 10 := by
  unfold reqE
  split
  · omega
  · rename_i m _
    have := mErr_le m
    unfold reqW
    repeat' split
    all_goals omega
theorem codeE_le {E : Nat → Nat} {n : Nat} (h : ∀ i, E i ≤ 10) : codeE E n ≤ 10 := by
  cases h1 : fstE E n with
  | none => unfold codeE; rw [h1]; simp
  | some j => rw [codeE_some h1]; exact h j
theorem packErr_le (Z : List (List UInt8)) : packErr Z ≤ 10 := by
  unfold packErr
  repeat' split
  all_goals omega
theorem entR_le (e : Ent) : entR e ≤ 10 := by
  unfold entR
  repeat' split
  all_goals first | omega | exact codeE_le (reqE_le _ _) | exact packErr_le _
theorem entE_le (L : List Ent) (i : Nat) : entE L i ≤ 10 := by
  unfold entE
  split
  · omega
  · unfold entW
    repeat' split
    all_goals first | omega | exact mErr_le _ | exact entR_le _
theorem nonW_le (Q : List Raw) (m : Bm) : nonW Q m ≤ 10 := by
  unfold nonW
  split <;> omega
theorem nonE_le (Q : List Raw) (R : List Bm) (i : Nat) : nonE Q R i ≤ 10 := by
  unfold nonE
  split
  · omega
  · exact nonW_le _ _
theorem reqE2_le (Q : List Raw) (L : List Ent) (i : Nat) : reqE2 Q L i ≤ 10 := by
  unfold reqE2
  split
  · omega
  · exact codeE_le (nonE_le _ _)
theorem chk_le (Q : List Raw) (L : List Ent) : (chk Q L).1 ≤ 10 := by
  unfold chk
  repeat' split
  all_goals first | (simp only; omega) | exact entE_le _ _ | exact codeE_le (reqE2_le _ _)
theorem chkG_le (Q : List Raw) (L : List Ent) (roots : List Bm) : (chkG Q L roots).1 ≤ 10 := by
  unfold chkG
  split
  · exact chk_le _ _
  · exact codeE_le (nonE_le _ _)
/-- How many requirements modules have. -/
def sumM (req : Bm → List Bm) : List Bm → Nat
  | [] => 0
  | m :: X => (req m).length + sumM req X
theorem sumM_app (req : Bm → List Bm) : ∀ (X Y : List Bm), sumM req (X ++ Y) = sumM req X + sumM req Y
  | [], Y => by simp [sumM]
  | r :: X, Y => by
    have h := sumM_app req X Y
    simp only [List.cons_append, sumM, h]
    omega
theorem sumM_next (req : Bm → List Bm) {X : List Bm} {k : Nat} (hk : k < X.length) : sumM req (X.take (k + 1)) = sumM req (X.take k) + (req X[k]).length := by
  rw [List.take_succ_eq_append_getElem hk, sumM_app]
  simp [sumM]
theorem sumM_le (req : Bm → List Bm) (B : Nat) : ∀ (X : List Bm), (∀ r, r ∈ X → (req r).length ≤ B) → sumM req X ≤ X.length * B
  | [], _ => by simp [sumM]
  | r :: X, h => by
    have h1 := h r (by simp)
    have h2 := sumM_le req B X fun x hx => h x (by simp [hx])
    have h3 : sumM req (r :: X) = (req r).length + sumM req X := rfl
    rw [h3, List.length_cons, Nat.succ_mul]
    omega
theorem sumM_take_le (req : Bm → List Bm) (X : List Bm) (k B : Nat) (h : ∀ r, r ∈ X → (req r).length ≤ B) : sumM req (X.take k) ≤ X.length * B := by
  have h1 := sumM_le req B (X.take k) fun r hr => h r (List.mem_of_mem_take hr)
  have h2 : (X.take k).length ≤ X.length := by rw [List.length_take]; omega
  exact Nat.le_trans h1 (Nat.mul_le_mul_right B h2)
theorem sumR_M (req : Bm → List Bm) : ∀ (X : List Raw), (∀ r, r ∈ X → lenV r.2.1 = (req r.1).length) → sumR X = sumM req (X.map fun r => r.1)
  | [], _ => rfl
  | r :: X, h => by
    have h1 := h r (by simp)
    have h2 := sumR_M req X fun x hx => h x (by simp [hx])
    simp only [List.map_cons, sumR, sumM, h1, h2]
theorem len_req {w : World} {v : Value} {Q : List Raw} {L : List Ent} (I : Ixs w v Q L) (h : (chk Q L).1 = 0) : ∀ r, r ∈ Q → lenV r.2.1 = (reqQ Q L r.1).length := fun r hr => by
  obtain ⟨k, hk, rfl⟩ := List.getElem_of_mem hr
  have hk' : k < L.length := by rw [← I.ln]; exact hk
  have hu : k < (univ L).length := by rw [univ_len]; exact hk'
  rw [lenV_ms (I.ok k hk hk').rq, ← req_at I h hk' hu]
  rw [show (univ L)[k] = Q[k].1 by rw [(I.ok k hk hk').m]; simp [univ]]
theorem edges_sum {w : World} {v : Value} {Q : List Raw} {L : List Ent} (I : Ixs w v Q L) (h : (chk Q L).1 = 0) (T : By) : sumR (goQ T Q) = sumM (reqQ Q L) (goM T Q) :=
  sumR_M _ _ fun r hr => len_req I h r (List.mem_filter.1 hr).1
end Ve
end Go.Proofs.YtjhiajeeijfkeaaGreatDoor

/-
  Both sides of chapter 5 as one function each: what is reached, how many requirements, how far; what is refused.
-/
namespace Go.Proofs.YtjhiajeeijfkeaaGreatDoor
open Go.RowKit Go.Maps
namespace Ve

theorem rF_le (Q : List Raw) (L : List Ent) (roots : List Bm) : (rF Q L roots).1 ≤ 10 := by
  unfold rF
  split
  · simp
  · exact chkG_le _ _ _
theorem rX_sel {Q : List Raw} {L : List Ent} {roots : List Bm} {O : List Bool} (h : (chkG Q L roots).1 = 0) (hl : O.length = (univ L).length) (hO : ∀ i (hi : i < (univ L).length) (hi' : i < O.length), O[i] = true ↔ Rch (reqQ Q L) roots (univ L)[i]) : selO O (univ L) = rX Q L roots := by
  unfold rX
  rw [if_pos h]
  refine selO_filter O (univ L) _ hl fun i h1 h2 => ?_
  by_cases hr : Rch (reqQ Q L) roots (univ L)[i]
  · rw [(hO i h1 h2).2 hr]; simp [hr]
  · cases hc : O[i]
    · simp [hr]
    · exact absurd ((hO i h1 h2).1 hc) hr
open Classical in
/-- How far a module is off, and what is refused of it. -/
noncomputable def rW (Q : List Raw) (L : List Ent) (roots : List Bm) (m : Bm) : Nat × (Nat × Option Nat) := if (chkG Q L roots).1 = 0 then (if h : ∃ d, Dst (reqQ Q L) roots m d then (h.choose, (0, none)) else (0, (5, none))) else (0, chkG Q L roots)
theorem rW_same {Q Q' : List Raw} {L : List Ent} (h : Q.map (fun r => r.1) = Q'.map (fun r => r.1)) (roots : List Bm) (m : Bm) : rW Q L roots m = rW Q' L roots m := by unfold rW; rw [chkG_same h, reqQ_same h]
theorem rW_bad {Q : List Raw} {L : List Ent} {roots : List Bm} {m : Bm} (h : ¬ (chkG Q L roots).1 = 0) : rW Q L roots m = (0, chkG Q L roots) := if_neg h
theorem rW_some {Q : List Raw} {L : List Ent} {roots : List Bm} {m : Bm} {d : Nat} (h : (chkG Q L roots).1 = 0) (hd : Dst (reqQ Q L) roots m d) : rW Q L roots m = (d, (0, none)) := by
  unfold rW
  have he : ∃ d, Dst (reqQ Q L) roots m d := ⟨d, hd⟩
  rw [if_pos h, dif_pos he]
  rw [he.choose_spec.one hd]
theorem rW_none {Q : List Raw} {L : List Ent} {roots : List Bm} {m : Bm} (h : (chkG Q L roots).1 = 0) (hd : ¬ Rch (reqQ Q L) roots m) : rW Q L roots m = (0, (5, none)) := by
  unfold rW
  rw [if_pos h, dif_neg (fun ⟨d, hh⟩ => hd hh.1.rch)]
theorem rW_le (Q : List Raw) (L : List Ent) (roots : List Bm) (m : Bm) : (rW Q L roots m).2.1 ≤ 10 := by
  unfold rW
  split
  · split <;> simp
  · exact chkG_le _ _ _
theorem faultV0 : faultV (0, none) = .agg #[.int .i64 0, .int .i64 (-1)] := rfl
theorem faultV5 : faultV (5, none) = .agg #[.int .i64 5, .int .i64 (-1)] := rfl
theorem reach_all (Q : List Raw) (L : List Ent) (roots : List Bm) (v rv : Value) (A : Nat → Addr) (m : Int) (w : World) (hn : L.length ≤ 1000) (hrn : roots.length ≤ 1000000) (sh : ∀ e, e ∈ L → ShE e) (S : Te w A m) (I : Ixs w v Q L) (hr : MsAt w rv roots) :
    Calls Tryz.prog 14 #[v, rv] w fun e w' => ∃ a c x, e = .returned (.tuple #[.slice a (rX Q L roots).length c, x]) ∧ MsAt w' (.slice a (rX Q L roots).length c) (rX Q L roots) ∧ ErrAt w' A x (rF Q L roots).1 (rF Q L roots).2 ∧ Below w.heap.size w w' := by
  by_cases h : (chkG Q L roots).1 = 0
  · refine (reach_good Q L roots v rv A m w hn hrn sh S I hr h).mono ?_
    rintro e w' ⟨u, rfl, T, hT, hown, hb⟩
    rw [rX_go I h hT] at hown
    have hms := own_ms hown
    obtain ⟨a, c, hu⟩ := own_slN hown
    subst hu
    exact ⟨a, c, _, rfl, hms, by rw [rF_good h]; rfl, hb⟩
  · refine (reach_bad Q L roots v rv A m w hn hrn sh S I hr h).mono ?_
    rintro e w' ⟨T, a, rfl, he, hb⟩
    rw [rX_bad h, rF_bad h]
    exact ⟨_, _, _, rfl, ms_nil0 _, he, hb⟩
end Ve
end Go.Proofs.YtjhiajeeijfkeaaGreatDoor

/-
  pewholderlaw2.DownCaps walked: what is built of what was lowered has nothing above a cap; where nothing that is reached is above one, it has the roots; each comes from a root.
-/
namespace Go.Proofs.YtjhiajeeijfkeaaGreatDoor
open Go.RowKit Go.Maps
namespace Ve

/-- What the loops read. -/
structure Gd (w W : World) (rv : Value) (roots : List Bm) (cv : Value) (caps : List Bm) (xv : Value) (T : List Bm) (yv : Value) (Y : List Bm) : Prop where
  bl : Below w.heap.size w W
  rs : MsAt W rv roots
  cs : MsAt W cv caps
  xs : MsAt W xv T
  ys : MsAt W yv Y
theorem Gd.below {w W W' : World} {rv cv xv yv : Value} {roots caps T Y : List Bm} (h : Gd w W rv roots cv caps xv T yv Y) (hb : Below W.heap.size W W') : Gd w W' rv roots cv caps xv T yv Y :=
  ⟨h.bl.trans (hb.mono h.bl.size), h.rs.below hb, h.cs.below hb, h.xs.below hb, h.ys.below hb⟩
theorem any_next {X : List Bm} {k : Nat} (hk : k < X.length) (P : Bm → Bool) : (X.take (k + 1)).any P = ((X.take k).any P || P X[k]) := by
  rw [List.take_succ_eq_append_getElem hk, List.any_append]; simp
/-- Does a module come from a root? -/
def frB (x r : Bm) : Bool := decide (r.1 = x.1) && !lessB (vb r) (vb x)
theorem selO_len : ∀ (O : List Bool) (U : List Bm), (selO O U).length ≤ U.length
  | [], U => by simp [selO]
  | _ :: _, [] => by simp [selO]
  | b :: O, m :: U => by
    have ih := selO_len O U
    cases b
    · show (selO O U).length ≤ U.length + 1
      omega
    · show (selO O U).length + 1 ≤ U.length + 1
      omega
/-- What DownCaps asks, plain. -/
structure DcF (Q : List Raw) (L : List Ent) (roots caps T : List Bm) : Prop where
  ln : T.length ≤ L.length
  un : ∀ x, x ∈ T → x ∈ univ L
  ok : (chkG Q L T).1 = 0
  cp : ∀ y, y ∈ bX Q L T → capB caps y = false
  ke : (rX Q L roots).any (capB caps) = false → ∀ r, r ∈ roots → hasM T r = true
  fr : ∀ x, x ∈ T → roots.any (frB x) = true
theorem dcF_of {w : World} {v : Value} {Q : List Raw} {L : List Ent} {roots caps : List Bm} (I : Ixs w v Q L) (h : (tF Q L roots caps).1 = 0) : DcF Q L roots caps (toL Q L roots caps) := by
  obtain ⟨hb, hg⟩ := tF_ok h
  obtain ⟨k0, k1⟩ := bF_chk hb
  have tw := toL_tw h
  have hok : (chkG Q L (toL Q L roots caps)).1 = 0 := chkG_in I k0 fun x hx => (tw.good hx).1
  refine ⟨by have := selO_len (kpN (univ L) (bdL Q L caps) roots) (univ L); rw [univ_len] at this; exact this, fun x hx => (tw.good hx).1, hok, fun y hy => tw.under (bX_in I hok hy), fun ha r hr => ?_, fun x hx => ?_⟩
  · refine hasM_iff.2 (tw.keeps hr ((rgt_of I hg).r r hr) fun hbd => ?_)
    obtain ⟨k, h1, h2⟩ := hbd
    have h3 : k ∈ rX Q L roots := (rX_mem I hg).2 (rch_in hr h1)
    have h4 := List.any_eq_true.2 ⟨k, h3, h2⟩
    rw [ha] at h4; cases h4
  · obtain ⟨r, hr, h1, h2⟩ := tw.from hx
    refine List.any_eq_true.2 ⟨r, hr, ?_⟩
    unfold frB
    rw [decide_eq_true h1, h2]; rfl
set_option maxRecDepth 100000 in
set_option maxHeartbeats 8000000 in
theorem dc_main (Q0 : List Raw) (L : List Ent) (roots caps : List Bm) (v u s : Value) (A : Nat → Addr) (m : Int) (w : World) (S : Te w A m) (I : Ixs w v Q0 L) (em : EmI Q0 L) (hr : MsAt w u roots) (her : Em u roots) (hc : MsAt w s caps) (hec : Em s caps) (hok : okI L = true) (hrk : okLN 15 roots = true) (hck : okLN 15 caps = true) :
    Calls Tryz.prog 3 #[v, u, s] w fun e w' => e = .returned (.bool true) ∧ Below w.heap.size w w' := by
  obtain ⟨a0, c0, hv0, -⟩ := id I.es
  subst hv0
  obtain ⟨ra, rc, hu0, -⟩ := id hr
  subst hu0
  obtain ⟨ca, cc, hs0, -⟩ := id hc
  subst hs0
  have hn101 : L.length ≤ 101 := by rcases (okI_iff hok).1 with h | h <;> omega
  have hr15 : roots.length ≤ 15 := (okLN_iff hrk).1
  have hc15 : caps.length ≤ 15 := (okLN_iff hck).1
  have HZR := hid (show ∀ x, x ∈ roots → x.2.size < 999999 from fun x hx => by have := ((okLN_iff hrk).2 x hx).2; omega)
  have HZC := hid (show shortL caps from fun x hx => by have := (okLN_iff hck).2 x hx; exact ⟨by omega, by omega⟩)
  have HIN := hid (low_any A m w S)
  have HLO := hid (fun W (h : Below w.heap.size w W) => longI_any Q0 L _ W (I.below h))
  rw [if_pos hok] at HLO
  have HLM := hid (fun W (h : Below w.heap.size w W) => longN_any 15 (by decide) roots _ W (hr.below h))
  rw [if_pos hrk] at HLM
  have HLC := hid (fun W (h : Below w.heap.size w W) => longN_any 15 (by decide) caps _ W (hc.below h))
  rw [if_pos hck] at HLC
  have HOW := hid (fun W (h : Below w.heap.size w W) => ownI_any Q0 L _ W (by omega) (I.below h) em (okI_fits hok))
  have HOM := hid (fun W (h : Below w.heap.size w W) => ownM_any _ roots W (by omega) (hr.below h) her)
  have HOC := hid (fun W (h : Below w.heap.size w W) => ownM_any _ caps W (by omega) (hc.below h) hec)
  have HS := hid (fun W (h : Below w.heap.size w W) => S.below h)
  have HSH := hid (okI_sh hok)
  have HR := hid (fun W (h : Below w.heap.size w W) => hr.below h)
  have HC := hid (fun W (h : Below w.heap.size w W) => hc.below h)
  clear S I em hok hr her hrk hc hec hck
  go_enter Tryz.func3, Tryz.ntmps3
  go_wp2_with fail
  refine HIN.out.mono ?_
  rintro e w1 ⟨rfl, hb⟩
  have HB1 := hid hb
  clear hb
  go_wp2_with fail
  refine (HLO.out w1 HB1.out).mono ?_
  rintro e w2 ⟨rfl, hb⟩
  have HB2 := hid (HB1.out.trans (hb.mono HB1.out.size))
  clear hb
  go_wp2_with fail
  refine (HLM.out w2 HB2.out).mono ?_
  rintro e w2' ⟨rfl, rfl⟩
  go_wp2_with fail
  refine (HLC.out w2' HB2.out).mono ?_
  rintro e w2'' ⟨rfl, rfl⟩
  go_wp2_with fail
  refine (HOW.out w2'' HB2.out).mono ?_
  rintro e w3 ⟨ou, Q, rfl, hO, hb⟩
  have HB3 := hid (HB2.out.trans (hb.mono HB2.out.size))
  have HIX := hid (fun W (h : Below w3.heap.size w3 W) => hO.ixs.below h)
  have HI3 := hid hO.ixs
  obtain ⟨oa, oc, hou, -⟩ := id hO.ixs.es
  subst hou
  have HBW := hid (fun W (h : Below w3.heap.size w3 W) => HB3.out.trans (h.mono HB3.out.size))
  clear hb hO HLO HLM HLC HOW HIN HB1 HB2
  have HB3' := HB3
  clear HB3
  have HB3 := hid (Below.refl w3.heap.size w3)
  go_wp2_with fail
  refine (HOM.out w3 (HBW.out _ HB3.out)).mono ?_
  rintro e w4 ⟨u4, rfl, ho, -, hb⟩
  have HB4 := hid (HB3.out.trans (hb.mono HB3.out.size))
  have HR4 := hid (mr_own ho hb)
  obtain ⟨a4, c4, hu4⟩ := HR4.out.sl
  subst hu4
  clear ho hb
  go_wp2_with fail
  refine (HOC.out w4 (HBW.out _ HB4.out)).mono ?_
  rintro e w5 ⟨u5, rfl, ho, -, hb⟩
  have HB5 := hid (HB4.out.trans (hb.mono HB4.out.size))
  have HR5 := hid (HR4.out.ms.below hb)
  have HC5 := hid (own_ms ho)
  obtain ⟨a5, c5, hu5⟩ := own_slN ho
  subst hu5
  clear ho hb HR4 HB4
  by_cases hca : (tF Q L roots caps).1 = 0
  rotate_left
  · have HBU := hid (to_bad Q L roots caps _ _ _ A m w5 (by omega) (by omega) (by omega) HSH.out HZC.out (HS.out _ (HBW.out _ HB5.out)) (HIX.out _ HB5.out) HR5.out HC5.out hca)
    clear hca
    go_wp2_with fail
    refine HBU.out.mono ?_
    rintro e w6 ⟨T, ea, rfl, -, hb⟩
    have HB6 := hid (HBW.out _ (HB5.out.trans (hb.mono HB5.out.size)))
    clear hb HBU
    go_wp2_with fail
    go_ret
    exact ⟨rfl, HB6.out⟩
  have HCA := hid hca
  have HDF := hid (dcF_of HI3.out hca)
  have HTO := hid (to_good Q L roots caps _ _ _ A m w5 (by omega) (by omega) (by omega) HSH.out HZC.out (HS.out _ (HBW.out _ HB5.out)) (HIX.out _ HB5.out) HR5.out HC5.out hca)
  clear hca
  generalize toL Q L roots caps = T at *
  go_wp2_with fail
  refine HTO.out.mono ?_
  rintro e w6 ⟨u6, rfl, ho, hb⟩
  have HB6 := hid (HB5.out.trans (hb.mono HB5.out.size))
  have HX6 := hid (own_ms ho)
  have HTL := hid (show T.length ≤ 1000 by have := HDF.out.ln; omega)
  obtain ⟨xa, xc, hu6⟩ := own_slN ho
  subst hu6
  clear ho hb HTO HR5 HC5 HB5
  have HBU := hid (build_all Q L T _ _ A m w6 (by omega) (by have := HTL.out; omega) HSH.out (HS.out _ (HBW.out _ HB6.out)) (HIX.out _ HB6.out) HX6.out)
  rw [rF_good HDF.out.ok] at HBU
  go_wp2_with fail
  refine HBU.out.mono ?_
  rintro e w7 ⟨ya, yc, y7, rfl, hm, he⟩
  have he : y7 = .nilIface := he
  subst he
  have HB7 := hid (HB6.out.trans (hm.1.mono HB6.out.size))
  have HX7 := hid (HX6.out.below hm.1)
  have HY7 := hid hm.ms
  have HYL := hid (show (bX Q L T).length ≤ 1000000 from Nat.le_trans bX_len (by omega))
  have HYZ := hid (show ∀ y, y ∈ bX Q L T → y.2.size < 999999 from fun y hy => by
    obtain ⟨e, he, rfl⟩ := List.mem_map.1 (bX_univ y hy)
    exact (HSH.out e he).v)
  have HYC := hid HDF.out.cp
  have HCAP := hid (fun (y : Bm) W (h : Below w.heap.size w W) (hy : y.2.size < 999999) => capped_any caps y _ W (by omega) (fun x hx => (HZC.out x hx).2) hy (HC.out W h))
  clear hm HBU HB6 HX6
  generalize bX Q L T = Y at *
  go_wp2_with fail
  obtain ⟨GG, hGG⟩ : ∃ GG : World → Prop, GG = fun W => Gd w3 W (.slice ra roots.length rc) roots (.slice ca caps.length cc) caps (.slice xa T.length xc) T (.slice ya Y.length yc) Y := ⟨_, rfl⟩
  have FG := hid (show ∀ W, GG W → Gd w3 W (.slice ra roots.length rc) roots (.slice ca caps.length cc) caps (.slice xa T.length xc) T (.slice ya Y.length yc) Y from fun W h => by rw [hGG] at h; exact h)
  have FB := hid (show ∀ W W', GG W → Below W.heap.size W W' → GG W' from fun W W' h hb => by rw [hGG] at h ⊢; exact h.below hb)
  have HG0 := hid (show GG w7 by rw [hGG]; exact ⟨HB7.out, HR.out _ (HBW.out _ HB7.out), HC.out _ (HBW.out _ HB7.out), HX7.out, HY7.out⟩)
  clear hGG HB7 HX7 HY7
  go_loopw [12] (fun iv wr => ∃ i : Nat, i ≤ Y.length ∧ iv = .int .i64 i ∧ Hid (GG wr)) (fun iv _ => Y.length - (intOf iv).toNat)
  case atStart => exact ⟨0, Nat.zero_le _, rfl, HG0⟩
  case round =>
    obtain ⟨i, hi, rfl, HG⟩ := hrel
    by_cases hlt : i < Y.length
    · have hiI : (i : Int) < (Y.length : Int) := Int.ofNat_lt.2 hlt
      have hi0 : (0 : Int) ≤ (i : Int) := Int.natCast_nonneg _
      obtain ⟨xb, xo, hya, z0, z1⟩ := (FG.out _ HG.out).ys.cells hlt
      subst hya
      have HLI := hid hlt
      obtain ⟨y, yy0, yy1, hyc, hyz⟩ : ∃ y : Bm, wr.cell? ⟨xb, xo + i * 2, none⟩ = some (.string y.1) ∧ wr.cell? ⟨xb, xo + i * 2 + 1, none⟩ = some (.string y.2) ∧ capB caps y = false ∧ y.2.size < 999999 := ⟨_, z0, z1, HYC.out _ (List.getElem_mem hlt), HYZ.out _ (List.getElem_mem hlt)⟩
      have HCX := hid (HCAP.out y wr (HBW.out _ (FG.out _ HG.out).bl) hyz)
      rw [hyc] at HCX
      obtain ⟨y1, y2⟩ := y
      clear hlt hyc hyz z0 z1
      go_wp2_with fail
      refine HCX.out.mono ?_
      rintro e w8 ⟨rfl, hb⟩
      have HG8 := hid (FB.out _ _ HG.out hb)
      clear hb yy0 yy1
      go_wp2_with fail
      go_roundw
      case rel => first | exact ⟨i + 1, HLI.out, nr_idx i, HG8⟩ | exact ⟨i + 1, HLI.out, nx_idx HLI.out HYL.out, HG8⟩
      case measure => first | exact nr_meas HLI.out | exact nx_meas HLI.out HYL.out
    · have hiI : ¬ (i : Int) < (Y.length : Int) := by omega
      have HGD := hid (FG.out _ HG.out)
      clear hlt HYZ HYC HG0
      go_wp2_with fail
      refine (HOM.out wr (HBW.out _ HGD.out.bl)).mono ?_
      rintro e w8 ⟨u8, rfl, ho, -, hb⟩
      have HB8 := hid (HGD.out.bl.trans (hb.mono HGD.out.bl.size))
      have HX8 := hid (HGD.out.xs.below hb)
      have HR8 := hid (own_ms ho)
      obtain ⟨a8, c8, hu8⟩ := own_slN ho
      subst hu8
      have HGX := hid (tF_ok HCA.out).2
      clear ho hb HG HGD
      have HRE := hid (reach_all Q L roots _ _ A m w8 (by omega) (by omega) HSH.out (HS.out _ (HBW.out _ HB8.out)) (HIX.out _ HB8.out) HR8.out)
      rw [rF_good HGX.out] at HRE
      have HRL := hid (show (rX Q L roots).length ≤ 1000000 from Nat.le_trans rX_len (by omega))
      have HRZ := hid (show ∀ y, y ∈ rX Q L roots → y.2.size < 999999 from fun y hy => by
        obtain ⟨e, he, rfl⟩ := List.mem_map.1 (rX_in hy).2
        exact (HSH.out e he).v)
      have HKE := hid HDF.out.ke
      have HFR := hid HDF.out.fr
      have HTZ := hid (show ∀ x, x ∈ T → x.2.size < 999999 from fun x hx => by
        obtain ⟨e, he, rfl⟩ := List.mem_map.1 (HDF.out.un x hx)
        exact (HSH.out e he).v)
      clear HDF
      generalize rX Q L roots = RX at *
      go_wp2_with fail
      refine HRE.out.mono ?_
      rintro e w9 ⟨za, zc, y9, rfl, hm, he, hb⟩
      have he : y9 = .nilIface := he
      subst he
      have HB9 := hid (HB8.out.trans (hb.mono HB8.out.size))
      have HX9 := hid (HX8.out.below hb)
      have HZ9 := hid hm
      clear hm hb HRE HX8 HR8 HB8 FG FB
      go_wp2_with fail
      obtain ⟨GG, hGG⟩ : ∃ GG : World → Prop, GG = fun W => Gd w3 W (.slice ra roots.length rc) roots (.slice ca caps.length cc) caps (.slice xa T.length xc) T (.slice za RX.length zc) RX := ⟨_, rfl⟩
      have FG := hid (show ∀ W, GG W → Gd w3 W (.slice ra roots.length rc) roots (.slice ca caps.length cc) caps (.slice xa T.length xc) T (.slice za RX.length zc) RX from fun W h => by rw [hGG] at h; exact h)
      have FB := hid (show ∀ W W', GG W → Below W.heap.size W W' → GG W' from fun W W' h hb => by rw [hGG] at h ⊢; exact h.below hb)
      have HG0 := hid (show GG w9 by rw [hGG]; exact ⟨HB9.out, HR.out _ (HBW.out _ HB9.out), HC.out _ (HBW.out _ HB9.out), HX9.out, HZ9.out⟩)
      clear hGG HB9 HX9 HZ9
      go_loopw [15, 16] (fun av iv wr => ∃ i : Nat, i ≤ RX.length ∧ iv = .int .i64 i ∧ av = .bool ((RX.take i).any (capB caps)) ∧ Hid (GG wr)) (fun _ iv _ => RX.length - (intOf iv).toNat)
      case atStart => exact ⟨0, Nat.zero_le _, rfl, rfl, HG0⟩
      case round =>
        obtain ⟨i2, hi2, rfl, rfl, HG⟩ := hrel
        by_cases hlt : i2 < RX.length
        · have hiI2 : (i2 : Int) < (RX.length : Int) := Int.ofNat_lt.2 hlt
          have hi02 : (0 : Int) ≤ (i2 : Int) := Int.natCast_nonneg _
          obtain ⟨xb, xo, hya, z0, z1⟩ := (FG.out _ HG.out).ys.cells hlt
          subst hya
          have HLI := hid hlt
          obtain ⟨y, yy0, yy1, hyz, hnx⟩ : ∃ y : Bm, wr.cell? ⟨xb, xo + i2 * 2, none⟩ = some (.string y.1) ∧ wr.cell? ⟨xb, xo + i2 * 2 + 1, none⟩ = some (.string y.2) ∧ y.2.size < 999999 ∧ (RX.take (i2 + 1)).any (capB caps) = ((RX.take i2).any (capB caps) || capB caps y) := ⟨_, z0, z1, HRZ.out _ (List.getElem_mem hlt), any_next hlt _⟩
          have HCX := hid (HCAP.out y wr (HBW.out _ (FG.out _ HG.out).bl) hyz)
          have HNX := hid hnx
          generalize (RX.take i2).any (capB caps) = cur at *
          generalize capB caps y = d at *
          obtain ⟨y1, y2⟩ := y
          clear hlt hyz z0 z1 hnx
          cases cur
          · go_wp2_with fail
            refine HCX.out.mono ?_
            rintro e w10 ⟨rfl, hb⟩
            have HG8 := hid (FB.out _ _ HG.out hb)
            clear hb yy0 yy1
            go_wp2_with fail
            go_roundw
            case rel => first | exact ⟨i2 + 1, HLI.out, nr_idx i2, by first | exact (congrArg Value.bool HNX.out).symm | (rw [HNX.out]; rfl), HG8⟩ | exact ⟨i2 + 1, HLI.out, nx_idx HLI.out HRL.out, by first | exact (congrArg Value.bool HNX.out).symm | (rw [HNX.out]; rfl), HG8⟩
            case measure => first | exact nr_meas HLI.out | exact nx_meas HLI.out HRL.out
          · go_wp2_with fail
            refine HCX.out.mono ?_
            rintro e w10 ⟨rfl, hb⟩
            have HG8 := hid (FB.out _ _ HG.out hb)
            clear hb yy0 yy1
            go_wp2_with fail
            go_roundw
            case rel => first | exact ⟨i2 + 1, HLI.out, nr_idx i2, by first | exact (congrArg Value.bool HNX.out).symm | (rw [HNX.out]; rfl), HG8⟩ | exact ⟨i2 + 1, HLI.out, nx_idx HLI.out HRL.out, by first | exact (congrArg Value.bool HNX.out).symm | (rw [HNX.out]; rfl), HG8⟩
            case measure => first | exact nr_meas HLI.out | exact nx_meas HLI.out HRL.out
        · have hiI2 : ¬ (i2 : Int) < (RX.length : Int) := by omega
          have hie : i2 = RX.length := by omega
          subst hie
          rw [List.take_length]
          clear hlt HG0 hiI hi
          generalize RX.any (capB caps) = any0 at *
          go_wp2_with fail
          have hgd := modGuard
          go_loopw [18] (fun iv wr => ∃ i : Nat, i ≤ roots.length ∧ iv = .int .i64 i ∧ Hid (GG wr)) (fun iv _ => roots.length - (intOf iv).toNat)
          case atStart => exact ⟨0, Nat.zero_le _, rfl, HG⟩
          case round =>
            obtain ⟨i3, hi3, rfl, HG3⟩ := hrel
            by_cases hlt : i3 < roots.length
            · have hiI3 : (i3 : Int) < (roots.length : Int) := Int.ofNat_lt.2 hlt
              have hi03 : (0 : Int) ≤ (i3 : Int) := Int.natCast_nonneg _
              have HLI3 := hid hlt
              obtain ⟨rb, ro, hra, -, -⟩ := (FG.out _ HG3.out).rs.cells hlt
              subst hra
              obtain ⟨r, hrc, hke⟩ : ∃ r : Bm, (∀ W, GG W → W.cell? ⟨rb, ro + i3 * 2, none⟩ = some (.string r.1) ∧ W.cell? ⟨rb, ro + i3 * 2 + 1, none⟩ = some (.string r.2)) ∧ (any0 = false → hasM T r = true) := ⟨_, fun W h => ms_atJ (FG.out _ h).rs hlt, fun h => HKE.out h _ (List.getElem_mem hlt)⟩
              have HRC := hid hrc
              have HKR := hid hke
              clear hlt hrc hke
              go_wp2_with fail
              go_loopw [19, 20] (fun bv kv wr => ∃ k : Nat, k ≤ T.length ∧ kv = .int .i64 k ∧ bv = .bool (hasM (T.take k) r) ∧ Hid (GG wr)) (fun _ kv _ => T.length - (intOf kv).toNat)
              case atStart => exact ⟨0, Nat.zero_le _, rfl, by rw [hasM_nil], HG3⟩
              case round =>
                obtain ⟨k1, hk1, rfl, rfl, HG1⟩ := hrel
                by_cases hlk : k1 < T.length
                · have hkI : (k1 : Int) < (T.length : Int) := Int.ofNat_lt.2 hlk
                  have hk0 : (0 : Int) ≤ (k1 : Int) := Int.natCast_nonneg _
                  obtain ⟨xb, xo, hxa, x0', x1'⟩ := (FG.out _ HG1.out).xs.cells hlk
                  subst hxa
                  obtain ⟨z0, z1⟩ := HRC.out _ HG1.out
                  obtain ⟨x, x0, x1, hnx⟩ : ∃ x : Bm, wr.cell? ⟨xb, xo + k1 * 2, none⟩ = some (.string x.1) ∧ wr.cell? ⟨xb, xo + k1 * 2 + 1, none⟩ = some (.string x.2) ∧ hasM (T.take (k1 + 1)) r = (hasM (T.take k1) r || eqM x r) := ⟨_, x0', x1', hasM_next hlk r⟩
                  have HCU := hid hnx
                  have HLK := hid hlk
                  have hXl : T.length ≤ 1000000 := by have := HTL.out; omega
                  clear hlk hnx x0' x1'
                  have heq := fun W => eqM_run x r W
                  generalize hasM (T.take k1) r = cur at *
                  generalize eqM x r = d at *
                  cases cur with
                  | true =>
                    go_wp2_with fail
                    go_quiet (fail)
                    go_wp2_with fail
                    go_roundw
                    case rel => first | exact ⟨k1 + 1, HLK.out, nr_idx k1, by first | exact (congrArg Value.bool HCU.out).symm | (rw [HCU.out]; rfl), hid (FB.out _ _ HG1.out (below_drawn _ _))⟩ | exact ⟨k1 + 1, HLK.out, nx_idx HLK.out hXl, by first | exact (congrArg Value.bool HCU.out).symm | (rw [HCU.out]; rfl), hid (FB.out _ _ HG1.out (below_drawn _ _))⟩
                    case measure => first | exact nr_meas HLK.out | exact nx_meas HLK.out hXl
                  | false =>
                    go_wp2_with fail
                    go_quiet (fail)
                    go_wp2_with fail
                    go_roundw
                    case rel => first | exact ⟨k1 + 1, HLK.out, nr_idx k1, by first | exact (congrArg Value.bool HCU.out).symm | (rw [HCU.out]; rfl), hid (FB.out _ _ HG1.out (below_drawn _ _))⟩ | exact ⟨k1 + 1, HLK.out, nx_idx HLK.out hXl, by first | exact (congrArg Value.bool HCU.out).symm | (rw [HCU.out]; rfl), hid (FB.out _ _ HG1.out (below_drawn _ _))⟩
                    case measure => first | exact nr_meas HLK.out | exact nx_meas HLK.out hXl
                · have hkI : ¬ (k1 : Int) < (T.length : Int) := by omega
                  have hke : k1 = T.length := by omega
                  subst hke
                  rw [List.take_length]
                  clear hlk
                  generalize hasM T r = hin at *
                  cases any0 with
                  | true =>
                    go_wp2_with fail
                    go_roundw
                    case rel => first | exact ⟨i3 + 1, HLI3.out, nr_idx i3, HG1⟩ | exact ⟨i3 + 1, HLI3.out, nx_idx HLI3.out (by omega), HG1⟩
                    case measure => first | exact nr_meas HLI3.out | exact nx_meas HLI3.out (by omega)
                  | false =>
                    have hh := HKR.out rfl
                    subst hh
                    go_wp2_with fail
                    go_roundw
                    case rel => first | exact ⟨i3 + 1, HLI3.out, nr_idx i3, HG1⟩ | exact ⟨i3 + 1, HLI3.out, nx_idx HLI3.out (by omega), HG1⟩
                    case measure => first | exact nr_meas HLI3.out | exact nx_meas HLI3.out (by omega)
            · have hiI3 : ¬ (i3 : Int) < (roots.length : Int) := by omega
              clear hlt HG
              go_wp2_with fail
              go_loopw [21] (fun iv wr => ∃ i : Nat, i ≤ T.length ∧ iv = .int .i64 i ∧ Hid (GG wr)) (fun iv _ => T.length - (intOf iv).toNat)
              case atStart => exact ⟨0, Nat.zero_le _, rfl, HG3⟩
              case round =>
                obtain ⟨i4, hi4, rfl, HG4⟩ := hrel
                by_cases hlt : i4 < T.length
                · have hiI4 : (i4 : Int) < (T.length : Int) := Int.ofNat_lt.2 hlt
                  have hi04 : (0 : Int) ≤ (i4 : Int) := Int.natCast_nonneg _
                  have HLI4 := hid hlt
                  obtain ⟨xb, xo, hxa, -, -⟩ := (FG.out _ HG4.out).xs.cells hlt
                  subst hxa
                  obtain ⟨x, hxc, hfr, hxz⟩ : ∃ x : Bm, (∀ W, GG W → W.cell? ⟨xb, xo + i4 * 2, none⟩ = some (.string x.1) ∧ W.cell? ⟨xb, xo + i4 * 2 + 1, none⟩ = some (.string x.2)) ∧ roots.any (frB x) = true ∧ x.2.size < 999999 := ⟨_, fun W h => ms_atJ (FG.out _ h).xs hlt, HFR.out _ (List.getElem_mem hlt), HTZ.out _ (List.getElem_mem hlt)⟩
                  have HXC := hid hxc
                  have HFX := hid hfr
                  clear hlt hxc hfr
                  obtain ⟨x1, x2⟩ := x
                  go_wp2_with fail
                  go_loopw [22, 23] (fun bv kv wr => ∃ k : Nat, k ≤ roots.length ∧ kv = .int .i64 k ∧ bv = .bool ((roots.take k).any (frB (x1, x2))) ∧ Hid (GG wr)) (fun _ kv _ => roots.length - (intOf kv).toNat)
                  case atStart => exact ⟨0, Nat.zero_le _, rfl, rfl, HG4⟩
                  case round =>
                    obtain ⟨k1, hk1, rfl, rfl, HG1⟩ := hrel
                    by_cases hlk : k1 < roots.length
                    · have hkI : (k1 : Int) < (roots.length : Int) := Int.ofNat_lt.2 hlk
                      have hk0 : (0 : Int) ≤ (k1 : Int) := Int.natCast_nonneg _
                      obtain ⟨rb, ro, hra, -, -⟩ := (FG.out _ HG1.out).rs.cells hlk
                      subst hra
                      obtain ⟨r, hrc, hnx, hrz⟩ : ∃ r : Bm, (∀ W, GG W → W.cell? ⟨rb, ro + k1 * 2, none⟩ = some (.string r.1) ∧ W.cell? ⟨rb, ro + k1 * 2 + 1, none⟩ = some (.string r.2)) ∧ (roots.take (k1 + 1)).any (frB (x1, x2)) = ((roots.take k1).any (frB (x1, x2)) || frB (x1, x2) r) ∧ r.2.size < 999999 := ⟨_, fun W h => ms_atJ (FG.out _ h).rs hlk, any_next hlk _, HZR.out _ (List.getElem_mem hlk)⟩
                      obtain ⟨r1, r2⟩ := r
                      have HCU := hid hnx
                      have HRC := hid hrc
                      have HLK := hid hlk
                      have HL := hid (fun W => isLess_any r2 x2 W hrz hxz)
                      obtain ⟨pe, hpe, hpd⟩ : ∃ pe : Bool, (r1.toList == x1.toList) = pe ∧ decide (r1 = x1) = pe := by
                        by_cases h : r1 = x1
                        · subst h; exact ⟨true, str_refl r1, decide_eq_true rfl⟩
                        · exact ⟨false, str_ne h, decide_eq_false h⟩
                      have HFB := hid (show frB (x1, x2) (r1, r2) = (pe && !lessB r2.data.toList x2.data.toList) by unfold frB; rw [← hpd])
                      rw [HFB.out] at HCU
                      generalize (roots.take k1).any (frB (x1, x2)) = cur at *
                      generalize lessB r2.data.toList x2.data.toList = more at *
                      clear hlk hnx hrc hpd HFB hrz
                      obtain ⟨s0, s1⟩ := HRC.out _ HG1.out
                      obtain ⟨t0, t1⟩ := HXC.out _ HG1.out
                      have HTT := hid (fun W' (hW : Below wr.heap.size wr W') => (show (fun W' => W'.cell? ⟨rb, ro + k1 * 2, none⟩ = some (.string r1) ∧ W'.cell? ⟨rb, ro + k1 * 2 + 1, none⟩ = some (.string r2) ∧ W'.cell? ⟨xb, xo + i4 * 2, none⟩ = some (.string x1) ∧ W'.cell? ⟨xb, xo + i4 * 2 + 1, none⟩ = some (.string x2) ∧ Hid (Below wr.heap.size wr W')) W' from ⟨cell_below hW s0, cell_below hW s1, cell_below hW t0, cell_below hW t1, hid hW⟩))
                      go_wp2_with fail
                      go_region_held (fun W' => W'.cell? ⟨rb, ro + k1 * 2, none⟩ = some (.string r1) ∧ W'.cell? ⟨rb, ro + k1 * 2 + 1, none⟩ = some (.string r2) ∧ W'.cell? ⟨xb, xo + i4 * 2, none⟩ = some (.string x1) ∧ W'.cell? ⟨xb, xo + i4 * 2 + 1, none⟩ = some (.string x2) ∧ Hid (Below wr.heap.size wr W')) (first | exact HTT.out _ HRa.out | exact HTT.out _ (below_drawn _ 1)) (first
                        | (go_at_call 15; refine (HL.out _).mono ?_; rintro e w' ⟨rfl, hb⟩; have HRa := hid ((below_drawn wr 1).trans (hb.mono (Nat.le_refl _))); clear hb))
                      all_goals
                        have HGa := hid (FB.out _ _ HG1.out HRa.out)
                        clear s0 s1 t0 t1
                        obtain ⟨s0, s1⟩ := HRC.out _ HGa.out
                        obtain ⟨t0, t1⟩ := HXC.out _ HGa.out
                        cases cur <;> cases pe <;> cases more
                        all_goals
                          go_wp2_with fail
                          go_quiet (fail)
                          go_wp2_with fail
                          go_roundw
                          case rel => first | exact ⟨k1 + 1, HLK.out, nr_idx k1, by first | exact (congrArg Value.bool HCU.out).symm | (rw [HCU.out]; rfl), hid (FB.out _ _ HGa.out (below_drawn _ _))⟩ | exact ⟨k1 + 1, HLK.out, nx_idx HLK.out (by omega), by first | exact (congrArg Value.bool HCU.out).symm | (rw [HCU.out]; rfl), hid (FB.out _ _ HGa.out (below_drawn _ _))⟩
                          case measure => first | exact nr_meas HLK.out | exact nx_meas HLK.out (by omega)
                    · have hkI : ¬ (k1 : Int) < (roots.length : Int) := by omega
                      have hke : k1 = roots.length := by omega
                      subst hke
                      rw [List.take_length, HFX.out]
                      clear hlk
                      go_wp2_with fail
                      go_roundw
                      case rel => first | exact ⟨i4 + 1, HLI4.out, nr_idx i4, HG1⟩ | exact ⟨i4 + 1, HLI4.out, nx_idx HLI4.out (by have := HTL.out; omega), HG1⟩
                      case measure => first | exact nr_meas HLI4.out | exact nx_meas HLI4.out (by have := HTL.out; omega)
                · have hiI4 : ¬ (i4 : Int) < (T.length : Int) := by omega
                  have HE := hid (HBW.out _ (FG.out _ HG4.out).bl)
                  clear hlt
                  go_wp2_with fail
                  go_ret
                  exact ⟨rfl, HE.out⟩
set_option maxRecDepth 100000 in
set_option maxHeartbeats 2000000 in
theorem dc_long1 (Q0 : List Raw) (L : List Ent) (roots caps : List Bm) (v u s : Value) (A : Nat → Addr) (m : Int) (w : World) (S : Te w A m) (I : Ixs w v Q0 L) (hr : MsAt w u roots) (hc : MsAt w s caps) (hok : okI L = false) :
    Calls Tryz.prog 3 #[v, u, s] w fun e w' => e = .returned (.bool true) ∧ Below w.heap.size w w' := by
  obtain ⟨a0, c0, hv0, -⟩ := id I.es
  subst hv0
  obtain ⟨ra, rc, hu0, -⟩ := id hr
  subst hu0
  obtain ⟨ca, cc, hs0, -⟩ := id hc
  subst hs0
  have HIN := hid (low_any A m w S)
  have HLO := hid (fun W (h : Below w.heap.size w W) => longI_any Q0 L _ W (I.below h))
  rw [hok] at HLO
  clear S I hok hr hc
  go_enter Tryz.func3, Tryz.ntmps3
  go_wp2_with fail
  refine HIN.out.mono ?_
  rintro e w1 ⟨rfl, hb⟩
  have HB1 := hid hb
  clear hb
  go_wp2_with fail
  refine (HLO.out w1 HB1.out).mono ?_
  rintro e w2 ⟨rfl, hb⟩
  have HB2 := hid (HB1.out.trans (hb.mono HB1.out.size))
  clear hb
  go_wp2_with fail
  go_ret
  exact ⟨rfl, HB2.out⟩
set_option maxRecDepth 100000 in
set_option maxHeartbeats 2000000 in
theorem dc_long2 (Q0 : List Raw) (L : List Ent) (roots caps : List Bm) (v u s : Value) (A : Nat → Addr) (m : Int) (w : World) (S : Te w A m) (I : Ixs w v Q0 L) (hr : MsAt w u roots) (hc : MsAt w s caps) (a b : Int) (hok : okI L = true) (hx : (if okLN 15 roots then (0 : Int) else 1) = a) (hy : (if okLN 15 caps then (0 : Int) else 1) = b) (hxy : (a = 1 ∧ b = 0) ∨ (a = 0 ∧ b = 1) ∨ (a = 1 ∧ b = 1)) :
    Calls Tryz.prog 3 #[v, u, s] w fun e w' => e = .returned (.bool true) ∧ Below w.heap.size w w' := by
  obtain ⟨a0, c0, hv0, -⟩ := id I.es
  subst hv0
  obtain ⟨ra, rc, hu0, -⟩ := id hr
  subst hu0
  obtain ⟨ca, cc, hs0, -⟩ := id hc
  subst hs0
  have HIN := hid (low_any A m w S)
  have HLO := hid (fun W (h : Below w.heap.size w W) => longI_any Q0 L _ W (I.below h))
  rw [if_pos hok] at HLO
  have HLM := hid (fun W (h : Below w.heap.size w W) => longN_any 15 (by decide) roots _ W (hr.below h))
  rw [hx] at HLM
  have HLS := hid (fun W (h : Below w.heap.size w W) => longN_any 15 (by decide) caps _ W (hc.below h))
  rw [hy] at HLS
  clear S I hok hr hc hx hy
  rcases hxy with ⟨rfl, rfl⟩ | ⟨rfl, rfl⟩ | ⟨rfl, rfl⟩
  all_goals
    go_enter Tryz.func3, Tryz.ntmps3
    go_wp2_with fail
    refine HIN.out.mono ?_
    rintro e w1 ⟨rfl, hb⟩
    have HB1 := hid hb
    clear hb
    go_wp2_with fail
    refine (HLO.out w1 HB1.out).mono ?_
    rintro e w2 ⟨rfl, hb⟩
    have HB2 := hid (HB1.out.trans (hb.mono HB1.out.size))
    clear hb
    go_wp2_with fail
    refine (HLM.out w2 HB2.out).mono ?_
    rintro e w2a ⟨rfl, rfl⟩
    go_wp2_with fail
    refine (HLS.out w2a HB2.out).mono ?_
    rintro e w2b ⟨rfl, rfl⟩
    go_wp2_with fail
    go_ret
    exact ⟨rfl, HB2.out⟩
theorem downCaps_any (Q0 : List Raw) (L : List Ent) (roots caps : List Bm) (v u s : Value) (A : Nat → Addr) (m : Int) (w : World) (S : Te w A m) (I : Ixs w v Q0 L) (em : EmI Q0 L) (hr : MsAt w u roots) (her : Em u roots) (hc : MsAt w s caps) (hec : Em s caps) :
    Calls Tryz.prog 3 #[v, u, s] w fun e w' => e = .returned (.bool true) ∧ Below w.heap.size w w' := by
  cases hok : okI L with
  | false => exact dc_long1 Q0 L roots caps v u s A m w S I hr hc hok
  | true =>
    cases hrk : okLN 15 roots <;> cases hck : okLN 15 caps
    case true.true => exact dc_main Q0 L roots caps v u s A m w S I em hr her hc hec hok hrk hck
    all_goals exact dc_long2 Q0 L roots caps v u s A m w S I hr hc _ _ hok rfl rfl (by rw [hrk, hck]; decide)
end Ve
end Go.Proofs.YtjhiajeeijfkeaaGreatDoor

/-
  pewholderlaw2.DownAgain walked: what was lowered is lowered no more; with a cap more nothing is greater; a module that is not bad is kept; what is bad is bad by itself, or by what it requires.
-/
namespace Go.Proofs.YtjhiajeeijfkeaaGreatDoor
open Go.RowKit Go.Maps
namespace Ve

/-- What DownAgain asks, plain. -/
structure DaF (Q : List Raw) (L : List Ent) (roots caps T : List Bm) (O : List Bool) : Prop where
  ln : T.length ≤ L.length
  un : ∀ x, x ∈ T → x ∈ univ L
  ok : (tF Q L T caps).1 = 0
  ag : toL Q L T caps = T
  ol : O.length = L.length
  ke : ∀ r, r ∈ roots → ∃ k : Nat, idxOf (isM r) Q = (k : Int) ∧ k < L.length ∧ ∀ (h : k < O.length), O[k] = false → hasM T r = true
  by_ : ∀ i (h : i < L.length) (h' : i < O.length), O[i] = (capB caps L[i].1 || L[i].2.1.any fun m => O[(idxOf (isM m) Q).toNat]?.getD false)
  rq : ∀ i (h : i < L.length) m, m ∈ L[i].2.1 → ∃ k : Nat, idxOf (isM m) Q = (k : Int) ∧ k < L.length
theorem univ_atL {L : List Ent} {i : Nat} (h : i < L.length) (h' : i < (univ L).length) : (univ L)[i] = L[i].1 := by simp [univ]
theorem daF_of {w : World} {v : Value} {Q : List Raw} {L : List Ent} {roots caps : List Bm} (I : Ixs w v Q L) (h : (tF Q L roots caps).1 = 0) : DaF Q L roots caps (toL Q L roots caps) (bdL Q L caps) := by
  obtain ⟨hb, hg⟩ := tF_ok h
  obtain ⟨k0, k1⟩ := bF_chk hb
  have tw := toL_tw h
  have u : Un (univ L) := ⟨univ_rises k0, univ_right k0⟩
  have hok : (chkG Q L (toL Q L roots caps)).1 = 0 := chkG_in I k0 fun x hx => (tw.good hx).1
  have htf : (tF Q L (toL Q L roots caps) caps).1 = 0 := by unfold tF; rw [if_pos hb]; exact hok
  have hbl : (bdL Q L caps).length = L.length := bdL_len Q L caps
  have hul : (univ L).length = L.length := univ_len L
  refine ⟨by have := selO_len (kpN (univ L) (bdL Q L caps) roots) (univ L); rw [univ_len] at this; exact this, fun x hx => (tw.good hx).1, htf, (toL_tw htf).one (tw.again u), hbl, fun r hr => ?_, fun i hi hi' => ?_, fun i hi m hm => ?_⟩
  · obtain ⟨k, hk, e1, e2⟩ := idx_univ I ((rgt_of I hg).r r hr)
    refine ⟨k, e1, by omega, fun hk' ho => hasM_iff.2 (tw.keeps hr ((rgt_of I hg).r r hr) fun hbd => ?_)⟩
    rw [← e2] at hbd
    have := (bdL_at hk hk').2 hbd
    rw [ho] at this; cases this
  · have hiu : i < (univ L).length := by omega
    have hq := req_at I k0 hi hiu
    refine Bool.eq_iff_iff.2 ((bdL_at hiu hi').trans (bd_iff.trans ?_))
    rw [Bool.or_eq_true, List.any_eq_true, univ_atL hi hiu]
    rw [univ_atL hi hiu] at hq
    rw [hq]
    refine or_congr Iff.rfl ⟨fun ⟨r, h1, h2⟩ => ⟨r, h1, ?_⟩, fun ⟨r, h1, h2⟩ => ⟨r, h1, ?_⟩⟩
    · have hru : r ∈ univ L := chk_reqs0 I k0 L[i].1 (by rw [← univ_atL hi hiu]; exact List.getElem_mem hiu) r (by rw [hq]; exact h1)
      obtain ⟨k, hk, e1, e2⟩ := idx_univ I hru
      have hk' : k < (bdL Q L caps).length := by omega
      rw [e1, Int.toNat_natCast, List.getElem?_eq_getElem hk']
      exact (bdL_at hk hk').2 (by rw [e2]; exact h2)
    · have hru : r ∈ univ L := chk_reqs0 I k0 L[i].1 (by rw [← univ_atL hi hiu]; exact List.getElem_mem hiu) r (by rw [hq]; exact h1)
      obtain ⟨k, hk, e1, e2⟩ := idx_univ I hru
      have hk' : k < (bdL Q L caps).length := by omega
      rw [e1, Int.toNat_natCast, List.getElem?_eq_getElem hk'] at h2
      have := (bdL_at hk hk').1 h2
      rw [e2] at this; exact this
  · have hiu : i < (univ L).length := by omega
    have hq := req_at I k0 hi hiu
    obtain ⟨k, hk, e1, e2⟩ := idx_univ I (chk_reqs0 I k0 (univ L)[i] (List.getElem_mem hiu) m (by rw [hq]; exact hm))
    exact ⟨k, e1, by omega⟩
/-- With a cap less. -/
def lessC (caps : List Bm) (k : Nat) : List Bm := caps.take k ++ caps.drop (k + 1)
theorem lessC_sub (caps : List Bm) (k : Nat) : (lessC caps k).Sublist caps := by
  unfold lessC
  have h : (caps.take k ++ caps.drop (k + 1)).Sublist (caps.take k ++ caps.drop k) := List.Sublist.append (List.Sublist.refl _) (by
    rw [← List.drop_drop]
    exact List.drop_sublist _ _)
  rwa [List.take_append_drop] at h
theorem caps_of {caps : List Bm} (hr : rising caps) (h : ∀ c, c ∈ caps → pathErr c.1.data.toList = 0 ∧ (vb c = noneL ∨ verErr (vb c) = 0)) : (chkP caps).1 = 0 := by
  have hp := List.pairwise_iff_getElem.1 hr
  have : chkP caps = (0, none) := caps_good fun j hj => by
    rw [capE_at hj]
    obtain ⟨h1, h2⟩ := h _ (List.getElem_mem hj)
    cases j with
    | zero => exact capW_first h1 h2
    | succ k =>
      have e : prevOf caps (k + 1) = some (caps[k]'(by omega)) := by
        unfold prevOf
        rw [if_neg (by omega)]
        exact List.getElem?_eq_getElem (by omega)
      rw [e]
      exact capW_right h1 h2 (by
        have h3 := hp k (k + 1) (by omega) hj (by omega)
        rw [noLess_lt]
        have h3 : lt (caps[k]'(by omega)).1 caps[k + 1].1 = true := h3
        rw [h3]; rfl)
  rw [this]
theorem caps_less {caps less : List Bm} (h : (chkP caps).1 = 0) (hs : less.Sublist caps) : (chkP less).1 = 0 := by
  have hr := caps_rise h
  refine caps_of (hr.sublist hs) fun c hc => ?_
  obtain ⟨i, hi, rfl⟩ := List.getElem_of_mem (hs.subset hc)
  have := capW_zero (caps_each h hi)
  exact ⟨this.1, this.2.1⟩
/-- With a cap less nothing more is bad. -/
theorem bd_lessL {Q : List Raw} {L : List Ent} {caps : List Bm} (h : (chkP caps).1 = 0) (k i : Nat) (h1 : i < (bdL Q L (lessC caps k)).length) (h2 : i < (bdL Q L caps).length) (hb : (bdL Q L (lessC caps k))[i] = true) : (bdL Q L caps)[i] = true := by
  have hu : i < (univ L).length := by rw [bdL_len] at h1; rw [univ_len]; exact h1
  exact (bdL_at hu h2).2 (bd_less (caps_rise h) (lessC_sub caps k) ((bdL_at hu h1).1 hb))
end Ve
end Go.Proofs.YtjhiajeeijfkeaaGreatDoor

/-
  pewholderlaw2.DownAgain walked: what was lowered is lowered no more; with a cap more nothing is greater; a module that is not bad is kept; what is bad is bad by itself, or by what it requires.
-/
namespace Go.Proofs.YtjhiajeeijfkeaaGreatDoor
open Go.RowKit Go.Maps
namespace Ve

/-- What the loops read. -/
structure Ga (w W : World) (v : Value) (Q0 : List Raw) (L : List Ent) (rv : Value) (roots : List Bm) (cv : Value) (caps : List Bm) (xv : Value) (T : List Bm) (g : Nat) (O : List Bool) : Prop where
  bl : Below w.heap.size w W
  i0 : Ixs W v Q0 L
  rs : MsAt W rv roots
  cs : MsAt W cv caps
  xs : MsAt W xv T
  bd : W.heap[g]? = some (.cells (bwc O) 4 (0, 0))
theorem Ga.below {w W W' : World} {v rv cv xv : Value} {Q0 : List Raw} {L : List Ent} {roots caps T : List Bm} {g : Nat} {O : List Bool} (h : Ga w W v Q0 L rv roots cv caps xv T g O) (hb : Below W.heap.size W W') : Ga w W' v Q0 L rv roots cv caps xv T g O :=
  ⟨h.bl.trans (hb.mono h.bl.size), h.i0.below hb, h.rs.below hb, h.cs.below hb, h.xs.below hb, (hb.block _ (lt_of_blk h.bd)).trans h.bd⟩
theorem MsAt.cap {w : World} {a : Option Addr} {n c : Nat} {L : List Bm} (h : MsAt w (.slice a n c) L) : L.length ≤ c := by
  obtain ⟨a', c', e, h1, _⟩ := h
  injection e with _ _ e3
  subst e3; exact h1
theorem ms_take {w : World} {a : Addr} {c : Nat} {L : List Bm} (h : MsAt w (.slice (some a) L.length c) L) {k : Nat} (hk : k ≤ L.length) : MsAt w (.slice (some a) k c) (L.take k) := by
  have hl : (L.take k).length = k := by simp; omega
  refine ⟨some a, c, by rw [hl], by have := h.cap; omega, fun hn => ?_⟩
  have h0 : 0 < L.length := by
    cases L with
    | nil => simp at hn
    | cons x r => simp
  obtain ⟨b, o, e, _⟩ := h.cells h0
  injection e with e
  subst e
  exact ⟨b, o, rfl, fun j hj => by
    rw [List.getElem_take]
    exact ms_atJ h (by omega)⟩
theorem ms_drop {w : World} {b o c : Nat} {L : List Bm} (h : MsAt w (.slice (some ⟨b, o, none⟩) L.length c) L) (k c' : Nat) (hc : L.length - k ≤ c') : MsAt w (.slice (some ⟨b, o + k * 2, none⟩) (L.length - k) c') (L.drop k) := by
  have hl : (L.drop k).length = L.length - k := by simp
  refine ⟨_, c', by rw [hl], by rw [hl]; exact hc, fun hn => ⟨b, o + k * 2, rfl, fun j hj => ?_⟩⟩
  rw [List.getElem_drop]
  have := ms_atJ h (k := k + j) (by omega)
  rw [show o + k * 2 + j * 2 = o + (k + j) * 2 by omega]
  exact this
theorem em_ad (a : Addr) (n c : Nat) (D : List Bm) : Em (.slice (some a) n c) D := fun a' c' e _ => by
  injection e with e1 e2 e3
  subst e1 e3
  exact Or.inr ⟨a, rfl⟩
set_option maxRecDepth 100000 in
set_option maxHeartbeats 8000000 in
theorem da_main (Q0 : List Raw) (L : List Ent) (roots caps : List Bm) (v u s : Value) (A : Nat → Addr) (m : Int) (w : World) (S : Te w A m) (I : Ixs w v Q0 L) (em : EmI Q0 L) (hr : MsAt w u roots) (her : Em u roots) (hc : MsAt w s caps) (hec : Em s caps) (hok : okI L = true) (hrk : okLN 15 roots = true) (hck : okLN 15 caps = true) (at_ : Int) (hat : ¬ at_ < 0) :
    Calls Tryz.prog 5 #[v, u, s, .int .i64 at_] w fun e w' => e = .returned (.bool true) ∧ Below w.heap.size w w' := by
  obtain ⟨a0, c0, hv0, -⟩ := id I.es
  subst hv0
  obtain ⟨ra, rc, hu0, -⟩ := id hr
  subst hu0
  obtain ⟨ca, cc, hs0, -⟩ := id hc
  subst hs0
  have hn101 : L.length ≤ 101 := by rcases (okI_iff hok).1 with h | h <;> omega
  have hr15 : roots.length ≤ 15 := (okLN_iff hrk).1
  have hc15 : caps.length ≤ 15 := (okLN_iff hck).1
  have HZR := hid (show ∀ x, x ∈ roots → x.2.size < 999999 from fun x hx => by have := ((okLN_iff hrk).2 x hx).2; omega)
  have HZC := hid (show shortL caps from fun x hx => by have := (okLN_iff hck).2 x hx; exact ⟨by omega, by omega⟩)
  have HIN := hid (low_any A m w S)
  have HLO := hid (fun W (h : Below w.heap.size w W) => longI_any Q0 L _ W (I.below h))
  rw [if_pos hok] at HLO
  have HLM := hid (fun W (h : Below w.heap.size w W) => longN_any 15 (by decide) roots _ W (hr.below h))
  rw [if_pos hrk] at HLM
  have HLC := hid (fun W (h : Below w.heap.size w W) => longN_any 15 (by decide) caps _ W (hc.below h))
  rw [if_pos hck] at HLC
  have HOW := hid (fun W (h : Below w.heap.size w W) => ownI_any Q0 L _ W (by omega) (I.below h) em (okI_fits hok))
  have HOM := hid (fun W (h : Below w.heap.size w W) => ownM_any _ roots W (by omega) (hr.below h) her)
  have HOC := hid (fun W (h : Below w.heap.size w W) => ownM_any _ caps W (by omega) (hc.below h) hec)
  have HS := hid (fun W (h : Below w.heap.size w W) => S.below h)
  have HSH := hid (okI_sh hok)
  have HI0 := hid (fun W (h : Below w.heap.size w W) => I.below h)
  have HU0 := hid (univ_eq I)
  have HEC := hid hec
  have HLQ := hid I.ln
  have HR := hid (fun W (h : Below w.heap.size w W) => hr.below h)
  have HC := hid (fun W (h : Below w.heap.size w W) => hc.below h)
  clear S I em hok hr her hrk hc hec hck
  go_enter Tryz.func5, Tryz.ntmps5
  go_wp2_with fail
  refine HIN.out.mono ?_
  rintro e w1 ⟨rfl, hb⟩
  have HB1 := hid hb
  clear hb
  go_wp2_with fail
  refine (HLO.out w1 HB1.out).mono ?_
  rintro e w2 ⟨rfl, hb⟩
  have HB2 := hid (HB1.out.trans (hb.mono HB1.out.size))
  clear hb
  go_wp2_with fail
  refine (HLM.out w2 HB2.out).mono ?_
  rintro e w2' ⟨rfl, rfl⟩
  go_wp2_with fail
  refine (HLC.out w2' HB2.out).mono ?_
  rintro e w2'' ⟨rfl, rfl⟩
  go_wp2_with fail
  refine (HOW.out w2'' HB2.out).mono ?_
  rintro e w3 ⟨ou, Q, rfl, hO, hb⟩
  have HB3 := hid (HB2.out.trans (hb.mono HB2.out.size))
  have HIX := hid (fun W (h : Below w3.heap.size w3 W) => hO.ixs.below h)
  have HI3 := hid hO.ixs
  obtain ⟨oa, oc, hou, -⟩ := id hO.ixs.es
  subst hou
  have HBW := hid (fun W (h : Below w3.heap.size w3 W) => HB3.out.trans (h.mono HB3.out.size))
  clear hb hO HLO HLM HLC HOW HIN HB1 HB2
  have HB3' := HB3
  clear HB3
  have HB3 := hid (Below.refl w3.heap.size w3)
  go_wp2_with fail
  refine (HOM.out w3 (HBW.out _ HB3.out)).mono ?_
  rintro e w4 ⟨u4, rfl, ho, -, hb⟩
  have HB4 := hid (HB3.out.trans (hb.mono HB3.out.size))
  have HR4 := hid (mr_own ho hb)
  obtain ⟨a4, c4, hu4⟩ := HR4.out.sl
  subst hu4
  clear ho hb
  go_wp2_with fail
  refine (HOC.out w4 (HBW.out _ HB4.out)).mono ?_
  rintro e w5 ⟨u5, rfl, ho, -, hb⟩
  have HB5 := hid (HB4.out.trans (hb.mono HB4.out.size))
  have HR5 := hid (HR4.out.ms.below hb)
  have HC5 := hid (own_ms ho)
  obtain ⟨a5, c5, hu5⟩ := own_slN ho
  subst hu5
  clear ho hb HR4 HB4
  by_cases hca : (tF Q L roots caps).1 = 0
  rotate_left
  · have HBU := hid (to_bad Q L roots caps _ _ _ A m w5 (by omega) (by omega) (by omega) HSH.out HZC.out (HS.out _ (HBW.out _ HB5.out)) (HIX.out _ HB5.out) HR5.out HC5.out hca)
    clear hca
    go_wp2_with fail
    refine HBU.out.mono ?_
    rintro e w6 ⟨T, ea, rfl, -, hb⟩
    have HB6 := hid (HBW.out _ (HB5.out.trans (hb.mono HB5.out.size)))
    clear hb HBU
    go_wp2_with fail
    go_ret
    exact ⟨rfl, HB6.out⟩
  have HCA := hid hca
  have HDF := hid (daF_of HI3.out hca)
  have HKP := hid (bF_chk (tF_ok hca).1)
  have HBF := hid (tF_ok hca).1
  have HSM := hid (fun m => isM_same (HU0.out.trans (univ_eq HI3.out).symm) m)
  have HTO := hid (to_good Q L roots caps _ _ _ A m w5 (by omega) (by omega) (by omega) HSH.out HZC.out (HS.out _ (HBW.out _ HB5.out)) (HIX.out _ HB5.out) HR5.out HC5.out hca)
  have HTA := hid (fun W xv cv (h : Below w3.heap.size w3 W) (hx : MsAt W xv (toL Q L roots caps)) (hcv : MsAt W cv caps) => to_good Q L (toL Q L roots caps) caps _ xv cv A m W (by omega) (by have := HDF.out.ln; omega) (by omega) HSH.out HZC.out (HS.out _ (HBW.out _ h)) (HIX.out _ h) hx hcv HDF.out.ok)
  rw [HDF.out.ag] at HTA
  clear hca
  generalize toL Q L roots caps = T at *
  go_wp2_with fail
  refine HTO.out.mono ?_
  rintro e w6 ⟨u6, rfl, ho, hb⟩
  have HB6 := hid (HB5.out.trans (hb.mono HB5.out.size))
  have HX6 := hid (own_ms ho)
  have HTL := hid (show T.length ≤ 1000 by have := HDF.out.ln; omega)
  obtain ⟨xa, xc, hu6⟩ := own_slN ho
  subst hu6
  clear ho hb HTO HR5 HC5 HB5
  go_wp2_with fail
  refine (HOC.out w6 (HBW.out _ HB6.out)).mono ?_
  rintro e w7 ⟨u7, rfl, ho, -, hb⟩
  have HB7 := hid (HB6.out.trans (hb.mono HB6.out.size))
  have HX7 := hid (HX6.out.below hb)
  have HC7 := hid (own_ms ho)
  obtain ⟨a7, c7, hu7⟩ := own_slN ho
  subst hu7
  clear ho hb HX6 HB6
  go_wp2_with fail
  refine (HTA.out w7 _ _ HB7.out HX7.out HC7.out).mono ?_
  rintro e w8 ⟨u8, rfl, ho, hb⟩
  have HB8 := hid (HB7.out.trans (hb.mono HB7.out.size))
  have HX8 := hid (HX7.out.below hb)
  have HSA := hid (sameM_any T u8 _ w8 (by have := HTL.out; omega) (own_ms ho) HX8.out)
  obtain ⟨a8, c8, hu8⟩ := own_slN ho
  subst hu8
  clear ho hb HTA HX7 HC7 HB7
  go_wp2_with fail
  refine HSA.out.mono ?_
  rintro e w9 ⟨rfl, hb⟩
  have HB9 := hid (HB8.out.trans (hb.mono HB8.out.size))
  have HX9 := hid (HX8.out.below hb)
  clear hb HSA HX8 HB8
  go_wp2_with fail
  refine (HOC.out w9 (HBW.out _ HB9.out)).mono ?_
  rintro e w10 ⟨u10, rfl, ho, -, hb⟩
  have HB10 := hid (HB9.out.trans (hb.mono HB9.out.size))
  have HX10 := hid (HX9.out.below hb)
  have HBD := hid (bad_good Q L caps _ u10 A m w10 (by omega) (by omega) HSH.out HZC.out (HS.out _ (HBW.out _ HB10.out)) (HIX.out _ HB10.out) (own_ms ho) HBF.out)
  have HBM := hid (fun less W cv (h : Below w3.heap.size w3 W) (hl : less.length ≤ 15) (hs : shortL less) (hcv : MsAt W cv less) (hk : (chkP less).1 = 0) => bad_good Q L less _ cv A m W (by omega) (by omega) HSH.out hs (HS.out _ (HBW.out _ h)) (HIX.out _ h) hcv (by unfold bF; rw [if_pos HKP.out.1]; exact hk))
  have HLS := hid (fun k i h1 h2 hb => bd_lessL (Q := Q) (L := L) HKP.out.2 k i h1 h2 hb)
  have HBL := hid (fun cs => show (bdL Q L cs).length = Q0.length by rw [bdL_len, HLQ.out])
  obtain ⟨a10, c10, hu10⟩ := own_slN ho
  subst hu10
  clear ho hb HX9 HB9
  rw [HBL.out] at HBD
  go_wp2_with fail
  refine HBD.out.mono ?_
  rintro e w11 ⟨gB, rfl, hM⟩
  have HB11 := hid (HB10.out.trans (hM.bl.mono HB10.out.size))
  have HX11 := hid (HX10.out.below hM.bl)
  have HM11 := hid hM.hp
  have HBO := hid (HBL.out caps)
  have HKE := hid HDF.out.ke
  have HBY := hid HDF.out.by_
  have HRQ := hid HDF.out.rq
  clear hM HBD HX10 HB10 HDF
  have HFO := hid (fun (x : Bm) W (h : Below w.heap.size w W) => findOf_all Q0 x _ W (by rw [HLQ.out]; omega) (HI0.out W h).es)
  generalize bdL Q L caps = BL at *
  go_wp2_with fail
  obtain ⟨GG, hGG⟩ : ∃ GG : World → Prop, GG = fun W => Ga w3 W (.slice a0 Q0.length c0) Q0 L (.slice ra roots.length rc) roots (.slice ca caps.length cc) caps (.slice xa T.length xc) T gB BL := ⟨_, rfl⟩
  have FG := hid (show ∀ W, GG W → Ga w3 W (.slice a0 Q0.length c0) Q0 L (.slice ra roots.length rc) roots (.slice ca caps.length cc) caps (.slice xa T.length xc) T gB BL from fun W h => by rw [hGG] at h; exact h)
  have FB := hid (show ∀ W W', GG W → Below W.heap.size W W' → GG W' from fun W W' h hb => by rw [hGG] at h ⊢; exact h.below hb)
  have HG0 := hid (show GG w11 by rw [hGG]; exact ⟨HB11.out, HI0.out _ (HBW.out _ HB11.out), HR.out _ (HBW.out _ HB11.out), HC.out _ (HBW.out _ HB11.out), HX11.out, HM11.out⟩)
  clear hGG HB11 HX11 HM11
  have hgd := modGuard
  go_loopw [15] (fun iv wr => ∃ i : Nat, i ≤ roots.length ∧ iv = .int .i64 i ∧ Hid (GG wr)) (fun iv _ => roots.length - (intOf iv).toNat)
  case atStart => exact ⟨0, Nat.zero_le _, rfl, HG0⟩
  case round =>
    obtain ⟨i3, hi3, rfl, HG3⟩ := hrel
    by_cases hlt : i3 < roots.length
    · have hiI3 : (i3 : Int) < (roots.length : Int) := Int.ofNat_lt.2 hlt
      have hi03 : (0 : Int) ≤ (i3 : Int) := Int.natCast_nonneg _
      have HLI3 := hid hlt
      obtain ⟨rb, ro, hra, -, -⟩ := (FG.out _ HG3.out).rs.cells hlt
      subst hra
      obtain ⟨r, hrc, hke⟩ : ∃ r : Bm, (∀ W, GG W → W.cell? ⟨rb, ro + i3 * 2, none⟩ = some (.string r.1) ∧ W.cell? ⟨rb, ro + i3 * 2 + 1, none⟩ = some (.string r.2)) ∧ ∃ k : Nat, idxOf (isM r) Q = (k : Int) ∧ k < L.length ∧ ∀ (h : k < BL.length), BL[k] = false → hasM T r = true := ⟨_, fun W h => ms_atJ (FG.out _ h).rs hlt, HKE.out _ (List.getElem_mem hlt)⟩
      obtain ⟨kq, hkq, hkl, hkk⟩ := hke
      have HRC := hid hrc
      have HKR := hid hkk
      have hkB : kq < BL.length := by rw [HBO.out, HLQ.out]; exact hkl
      have hkI : (kq : Int) < (Q0.length : Int) := by rw [HLQ.out]; omega
      have hk0q : (0 : Int) ≤ (kq : Int) := Int.natCast_nonneg _
      have HFR := hid (fun W (h : Below w.heap.size w W) => HFO.out r W h)
      rw [HSM.out, hkq] at HFR
      clear hlt hrc hkk hkq
      go_wp2_with fail
      go_loopw [16, 17] (fun bv kv wr => ∃ k : Nat, k ≤ T.length ∧ kv = .int .i64 k ∧ bv = .bool (hasM (T.take k) r) ∧ Hid (GG wr)) (fun _ kv _ => T.length - (intOf kv).toNat)
      case atStart => exact ⟨0, Nat.zero_le _, rfl, by rw [hasM_nil], HG3⟩
      case round =>
        obtain ⟨k1, hk1, rfl, rfl, HG1⟩ := hrel
        by_cases hlk : k1 < T.length
        · have hkI1 : (k1 : Int) < (T.length : Int) := Int.ofNat_lt.2 hlk
          have hk0 : (0 : Int) ≤ (k1 : Int) := Int.natCast_nonneg _
          obtain ⟨xb, xo, hxa, x0', x1'⟩ := (FG.out _ HG1.out).xs.cells hlk
          subst hxa
          obtain ⟨z0, z1⟩ := HRC.out _ HG1.out
          obtain ⟨x, x0, x1, hnx⟩ : ∃ x : Bm, wr.cell? ⟨xb, xo + k1 * 2, none⟩ = some (.string x.1) ∧ wr.cell? ⟨xb, xo + k1 * 2 + 1, none⟩ = some (.string x.2) ∧ hasM (T.take (k1 + 1)) r = (hasM (T.take k1) r || eqM x r) := ⟨_, x0', x1', hasM_next hlk r⟩
          have HCU := hid hnx
          have HLK := hid hlk
          have hXl : T.length ≤ 1000000 := by have := HTL.out; omega
          clear hlk hnx x0' x1'
          have heq := fun W => eqM_run x r W
          generalize hasM (T.take k1) r = cur at *
          generalize eqM x r = d at *
          cases cur with
          | true =>
            go_wp2_with fail
            go_quiet (fail)
            go_wp2_with fail
            go_roundw
            case rel => first | exact ⟨k1 + 1, HLK.out, nr_idx k1, by first | exact (congrArg Value.bool HCU.out).symm | (rw [HCU.out]; rfl), hid (FB.out _ _ HG1.out (below_drawn _ _))⟩ | exact ⟨k1 + 1, HLK.out, nx_idx HLK.out hXl, by first | exact (congrArg Value.bool HCU.out).symm | (rw [HCU.out]; rfl), hid (FB.out _ _ HG1.out (below_drawn _ _))⟩
            case measure => first | exact nr_meas HLK.out | exact nx_meas HLK.out hXl
          | false =>
            go_wp2_with fail
            go_quiet (fail)
            go_wp2_with fail
            go_roundw
            case rel => first | exact ⟨k1 + 1, HLK.out, nr_idx k1, by first | exact (congrArg Value.bool HCU.out).symm | (rw [HCU.out]; rfl), hid (FB.out _ _ HG1.out (below_drawn _ _))⟩ | exact ⟨k1 + 1, HLK.out, nx_idx HLK.out hXl, by first | exact (congrArg Value.bool HCU.out).symm | (rw [HCU.out]; rfl), hid (FB.out _ _ HG1.out (below_drawn _ _))⟩
            case measure => first | exact nr_meas HLK.out | exact nx_meas HLK.out hXl
        · have hkI1 : ¬ (k1 : Int) < (T.length : Int) := by omega
          have hke : k1 = T.length := by omega
          subst hke
          rw [List.take_length]
          clear hlk
          obtain ⟨z0, z1⟩ := HRC.out _ HG1.out
          have HKH := hid (HKR.out hkB)
          generalize hasM T r = hin at *
          have HFX := hid (HFR.out wr (HBW.out _ (FG.out _ HG1.out).bl))
          have HBX := hid (fun W (h : GG W) => bwc_at (FG.out _ h).bd hkB)
          obtain ⟨bk, hbk⟩ : ∃ bk, BL[kq] = bk := ⟨_, rfl⟩
          rw [hbk] at HBX HKH
          clear hbk
          go_wp2_with fail
          refine HFX.out.mono ?_
          rintro e w12 ⟨rfl, hb⟩
          have HG2 := hid (FB.out _ _ HG1.out hb)
          have c1 := HBX.out _ HG2.out
          clear hb z0 z1
          cases bk with
          | true =>
            go_wp2_with fail
            go_roundw
            case rel => first | exact ⟨i3 + 1, HLI3.out, nr_idx i3, HG2⟩ | exact ⟨i3 + 1, HLI3.out, nx_idx HLI3.out (by omega), HG2⟩
            case measure => first | exact nr_meas HLI3.out | exact nx_meas HLI3.out (by omega)
          | false =>
            have hh := HKH.out rfl
            subst hh
            go_wp2_with fail
            go_roundw
            case rel => first | exact ⟨i3 + 1, HLI3.out, nr_idx i3, HG2⟩ | exact ⟨i3 + 1, HLI3.out, nx_idx HLI3.out (by omega), HG2⟩
            case measure => first | exact nr_meas HLI3.out | exact nx_meas HLI3.out (by omega)
    · have hiI3 : ¬ (i3 : Int) < (roots.length : Int) := by omega
      clear hlt HG0 HKE
      by_cases hae : (caps.length : Int) ≤ at_
      · have HE := hid (HBW.out _ (FG.out _ HG3.out).bl)
        go_wp2_with fail
        go_ret
        exact ⟨rfl, HE.out⟩
      · obtain ⟨k, hk⟩ : ∃ k : Nat, at_ = (k : Int) := ⟨at_.toNat, by omega⟩
        subst hk
        have hkc : k < caps.length := by omega
        obtain ⟨cb, co, hca, -⟩ := (FG.out _ HG3.out).cs.cells hkc
        subst hca
        have hccl : caps.length ≤ cc := (FG.out _ HG3.out).cs.cap
        have HT1 := hid (fun W (h : GG W) => ms_take (FG.out _ h).cs (k := k) (by omega))
        have hk0 : (0 : Int) ≤ (k : Int) := Int.natCast_nonneg _
        have hkI : (k : Int) < (caps.length : Int) := by omega
        have hkL : (k : Int) ≤ (caps.length : Int) := by omega
        have hkC : (k : Int) ≤ (cc : Int) := by omega
        have hk10 : (0 : Int) ≤ (k : Int) + 1 := by omega
        have hk1L : (k : Int) + 1 ≤ (caps.length : Int) := by omega
        have hk1C : (k : Int) + 1 ≤ (cc : Int) := by omega
        have HLC := hid (show caps.take k ++ caps.drop (k + 1) = lessC caps k from rfl)
        have HLN := hid (show (lessC caps k).length ≤ 15 by have := (lessC_sub caps k).length_le; omega)
        have HLZ := hid (show shortL (lessC caps k) from fun x hx => HZC.out x ((lessC_sub caps k).subset hx))
        have HLK := hid (caps_less HKP.out.2 (lessC_sub caps k))
        have HLI := hid (HLS.out k)
        have HBN := hid (HBL.out (lessC caps k))
        have HBX := hid (fun W cv (h : Below w3.heap.size w3 W) (hcv : MsAt W cv (lessC caps k)) => HBM.out (lessC caps k) W cv h HLN.out HLZ.out hcv HLK.out)
        have HD1 := hid (fun W (h : GG W) => ms_drop (FG.out _ h).cs (k + 1) (cc - (k + 1)) (by omega))
        have HD2 := hid (fun W (he : cc = k + 1) => show MsAt W (.slice (some ⟨cb, co, none⟩) (caps.length - (k + 1)) (cc - (k + 1))) (caps.drop (k + 1)) by
          have hz : caps.drop (k + 1) = [] := List.drop_eq_nil_of_le (by omega)
          rw [hz]
          exact ⟨_, _, by rw [show caps.length - (k + 1) = 0 by omega]; rfl, Nat.zero_le _, fun h => absurd rfl h⟩)
        have HOG := hid (ownM_any _ (caps.take k) wr (by simp; omega) (HT1.out _ HG3.out) (em_ad _ _ _ _))
        have HL1 := hid (show (caps.take k).length ≤ 1000 by simp; omega)
        have HL2 := hid (show (caps.drop (k + 1)).length ≤ 1000 by simp; omega)
        clear HT1 HLS HBM HKP
        generalize caps.take k = CT at *
        generalize caps.drop (k + 1) = CD at *
        generalize lessC caps k = LC at *
        go_wp2_with fail
        refine HOG.out.mono ?_
        rintro e w12 ⟨u12, rfl, ho, -, hb⟩
        have HG4 := hid (FB.out _ _ HG3.out hb)
        have HO12 := hid ho
        have HB12 := hid hb
        obtain ⟨a12, c12, hu12⟩ := own_slN ho
        subst hu12
        have HAP := hid (fun sv (hsv : MsAt w12 sv CD) (he : Em sv CD) => both_run CT CD _ sv w12 wr.heap.size HB12.out.size HL1.out HL2.out HO12.out hsv he)
        rw [HLC.out] at HAP
        have HLT12 := hid (fun k hk => (HO12.out.lt k hk).1)
        clear ho hb HOG
        go_upto_region 27 with fail
        go_cut [18] (fun lv wx => ∃ da dc, lv = .slice da LC.length dc ∧ Hid (MsAt wx (.slice da LC.length dc) LC ∧ GG wx))
        case first =>
          by_cases hcap : (k : Int) + 1 < (cc : Int)
          · obtain ⟨dv, w13, hrun, hown, hgr⟩ := HAP.out _ (HD1.out _ HG4.out) (em_ad _ _ _ _)
            have HRUN := hid hrun
            have HM13 := hid (own_ms hown)
            have HG13 := hid (FB.out _ _ HG3.out (HB12.out.grown hgr HB12.out.size HLT12.out))
            obtain ⟨da, dc, hdv⟩ := own_slN hown
            subst hdv
            clear hrun hown hgr
            go_wp2_with (at_builtin; refine Lib.wpList_append_run _ rfl _ _ _ _ rfl _ _ rfl rfl _ _ HRUN.out ?_)
            go_meet
            case rel => exact ⟨_, _, rfl, hid ⟨HM13.out, HG13.out⟩⟩
          · have HC2 : Hid (cc = k + 1) := hid (by omega)
            obtain ⟨dv, w13, hrun, hown, hgr⟩ := HAP.out _ (HD2.out w12 HC2.out) (em_ad _ _ _ _)
            have HRUN := hid hrun
            have HM13 := hid (own_ms hown)
            have HG13 := hid (FB.out _ _ HG3.out (HB12.out.grown hgr HB12.out.size HLT12.out))
            obtain ⟨da, dc, hdv⟩ := own_slN hown
            subst hdv
            clear hrun hown hgr
            go_wp2_with (at_builtin; refine Lib.wpList_append_run _ rfl _ _ _ _ rfl _ _ rfl rfl _ _ HRUN.out ?_)
            go_meet
            case rel => exact ⟨_, _, rfl, hid ⟨HM13.out, HG13.out⟩⟩
        case rest =>
          obtain ⟨da, dc, rfl, HL⟩ := hcut
          have HBZ := hid (HBX.out _ _ (FG.out _ HL.out.2).bl HL.out.1)
          rw [HBN.out] at HBZ
          have HGL := hid HL.out.2
          have hQl : Q0.length ≤ 1000000 := by rw [HLQ.out]; omega
          clear HL HAP HD1 HD2 HG4 HG3 HO12 HB12 HLT12 HBX HLK
          generalize bdL Q L LC = ML at *
          go_wp2_with fail
          refine HBZ.out.mono ?_
          rintro e w14 ⟨gM, rfl, hM⟩
          have HGM := hid (show GG w14 ∧ w14.heap[gM]? = some (.cells (bwc ML) 4 (0, 0)) from ⟨FB.out _ _ HGL.out hM.bl, hM.hp⟩)
          clear hM HBZ HGL
          go_wp2_with fail
          go_loopw [20] (fun iv wr => ∃ i : Nat, i ≤ Q0.length ∧ iv = .int .i64 i ∧ Hid (GG wr ∧ wr.heap[gM]? = some (.cells (bwc ML) 4 (0, 0)))) (fun iv _ => Q0.length - (intOf iv).toNat)
          case atStart => exact ⟨0, Nat.zero_le _, rfl, HGM⟩
          case round =>
            clear HGM
            obtain ⟨i1, hi1, rfl, HG5⟩ := hrel
            by_cases hlt : i1 < Q0.length
            · have hiI1 : (i1 : Int) < (Q0.length : Int) := Int.ofNat_lt.2 hlt
              have hi01 : (0 : Int) ≤ (i1 : Int) := Int.natCast_nonneg _
              have HLT := hid hlt
              have hM1 : i1 < ML.length := by rw [HBN.out]; exact hlt
              have hB1 : i1 < BL.length := by rw [HBO.out]; exact hlt
              have c1 := bwc_at HG5.out.2 hM1
              have c2 := bwc_at (FG.out _ HG5.out.1).bd hB1
              have hli := HLI.out i1 hM1 hB1
              obtain ⟨b1, hb1⟩ : ∃ b, ML[i1] = b := ⟨_, rfl⟩
              obtain ⟨b2, hb2⟩ : ∃ b, BL[i1] = b := ⟨_, rfl⟩
              rw [hb1] at c1 hli
              rw [hb2] at c2 hli
              clear hlt hb1 hb2
              cases b1 with
              | false =>
                clear hli
                go_wp2_with fail
                go_roundw
                case rel => first | exact ⟨i1 + 1, HLT.out, nr_idx i1, HG5⟩ | exact ⟨i1 + 1, HLT.out, nx_idx HLT.out hQl, HG5⟩
                case measure => first | exact nr_meas HLT.out | exact nx_meas HLT.out hQl
              | true =>
                have hli := hli rfl
                subst hli
                go_wp2_with fail
                go_roundw
                case rel => first | exact ⟨i1 + 1, HLT.out, nr_idx i1, HG5⟩ | exact ⟨i1 + 1, HLT.out, nx_idx HLT.out hQl, HG5⟩
                case measure => first | exact nr_meas HLT.out | exact nx_meas HLT.out hQl
            · have hiI1 : ¬ (i1 : Int) < (Q0.length : Int) := by omega
              have HG6 := hid HG5.out.1
              clear hlt HG5 HLI
              go_wp2_with fail
              go_loopw [21] (fun iv wr => ∃ i : Nat, i ≤ Q0.length ∧ iv = .int .i64 i ∧ Hid (GG wr)) (fun iv _ => Q0.length - (intOf iv).toNat)
              case atStart => exact ⟨0, Nat.zero_le _, rfl, HG6⟩
              case round =>
                clear HG6
                obtain ⟨i2, hi2, rfl, HG7⟩ := hrel
                by_cases hlt : i2 < Q0.length
                · have hiI2 : (i2 : Int) < (Q0.length : Int) := Int.ofNat_lt.2 hlt
                  have hi02 : (0 : Int) ≤ (i2 : Int) := Int.natCast_nonneg _
                  have HLT := hid hlt
                  have hil : i2 < L.length := by rw [← HLQ.out]; exact hlt
                  have hB1 : i2 < BL.length := by rw [HBO.out]; exact hlt
                  obtain ⟨eb, eo, hea, -⟩ := es_cells (FG.out _ HG7.out).i0.es hlt
                  subst hea
                  have HES := hid (fun W (h : GG W) => es_all (FG.out _ h).i0.es hlt)
                  have HMS := hid (fun W (h : GG W) => ((FG.out _ h).i0.ok i2 hlt hil).rq)
                  have HMM := hid ((FG.out _ HG7.out).i0.ok i2 hlt hil).m
                  have HSE := HSH.out L[i2] (List.getElem_mem hil)
                  have hRl := HSE.rn
                  have HCP := hid (fun W (h : GG W) => capped_any caps L[i2].1 _ W (by omega) (fun x hx => by have := HZC.out x hx; omega) (by have := HSE.v; omega) (FG.out _ h).cs)
                  have HBO2 := hid (HBY.out i2 hil hB1)
                  have HRX := hid (HRQ.out i2 hil)
                  have HBC := hid (fun W (h : GG W) => bwc_at (FG.out _ h).bd hB1)
                  obtain ⟨bi, hbi⟩ : ∃ b, BL[i2] = b := ⟨_, rfl⟩
                  rw [hbi] at HBC HBO2
                  clear hbi HSE
                  generalize (L[i2]'hil).2.1 = R at *
                  generalize (Q0[i2]'hlt).2.1 = qv at *
                  generalize (Q0[i2]'hlt).1 = qm at *
                  generalize (L[i2]'hil).1 = lm at *
                  have hqm := HMM.out
                  subst hqm
                  obtain ⟨qa, qc, hqv, -⟩ := id (HMS.out wr HG7.out)
                  subst hqv
                  obtain ⟨-, d0, d1, d2, -, -⟩ := HES.out wr HG7.out
                  have HX2 := hid (fun W (h : GG W) => (HES.out W h).2.2.2.1)
                  have HCQ := hid (HCP.out wr HG7.out)
                  generalize capB caps qm = cb0 at *
                  clear hlt HMM HES HCP d2
                  go_wp2_with fail
                  refine HCQ.out.mono ?_
                  rintro e w15 ⟨rfl, hb⟩
                  have HG8 := hid (FB.out _ _ HG7.out hb)
                  clear hb d0 d1 HG7
                  go_wp2_with fail
                  go_loopw [22, 23] (fun bv kv wr => ∃ k : Nat, k ≤ R.length ∧ kv = .int .i64 k ∧ bv = .bool (cb0 || (R.take k).any fun m => BL[(idxOf (isM m) Q).toNat]?.getD false) ∧ Hid (GG wr)) (fun _ kv _ => R.length - (intOf kv).toNat)
                  case atStart => exact ⟨0, Nat.zero_le _, rfl, by rw [List.take_zero, List.any_nil, Bool.or_false], HG8⟩
                  case round =>
                    clear HG8
                    obtain ⟨k1, hk1, rfl, rfl, HG9⟩ := hrel
                    have d2 := HX2.out _ HG9.out
                    by_cases hlk : k1 < R.length
                    · have hkI1 : (k1 : Int) < (R.length : Int) := Int.ofNat_lt.2 hlk
                      have hk01 : (0 : Int) ≤ (k1 : Int) := Int.natCast_nonneg _
                      have HLK := hid hlk
                      obtain ⟨xb, xo, hxa, x0', x1'⟩ := (HMS.out _ HG9.out).cells hlk
                      subst hxa
                      obtain ⟨x, y0, y1, hxm, hxt⟩ : ∃ x : Bm, wr.cell? ⟨xb, xo + k1 * 2, none⟩ = some (.string x.1) ∧ wr.cell? ⟨xb, xo + k1 * 2 + 1, none⟩ = some (.string x.2) ∧ x ∈ R ∧ R.take (k1 + 1) = R.take k1 ++ [x] := ⟨_, x0', x1', List.getElem_mem hlk, List.take_succ_eq_append_getElem hlk⟩
                      obtain ⟨kq, hkq, hkl⟩ := HRX.out x hxm
                      have hkB : kq < BL.length := by rw [HBO.out, HLQ.out]; exact hkl
                      have hkQ : (kq : Int) < (Q0.length : Int) := by rw [HLQ.out]; omega
                      have hk0q : (0 : Int) ≤ (kq : Int) := Int.natCast_nonneg _
                      have HNX := hid (show (cb0 || (R.take (k1 + 1)).any fun m => BL[(idxOf (isM m) Q).toNat]?.getD false) = ((cb0 || (R.take k1).any fun m => BL[(idxOf (isM m) Q).toNat]?.getD false) || BL[kq]) by
                        rw [hxt, List.any_append, Bool.or_assoc]
                        congr 2
                        rw [List.any_cons, List.any_nil, Bool.or_false, hkq, Int.toNat_natCast, List.getElem?_eq_getElem hkB]
                        rfl)
                      have HBK := hid (fun W (h : GG W) => bwc_at (FG.out _ h).bd hkB)
                      obtain ⟨bk, hbk⟩ : ∃ b, BL[kq] = b := ⟨_, rfl⟩
                      rw [hbk] at HNX HBK
                      have HFR := hid (HFO.out x wr (HBW.out _ (FG.out _ HG9.out).bl))
                      rw [HSM.out, hkq] at HFR
                      obtain ⟨x1, x2⟩ := x
                      clear hlk hbk hkq hxt hxm x0' x1'
                      generalize (cb0 || (R.take k1).any fun m => BL[(idxOf (isM m) Q).toNat]?.getD false) = cur at *
                      cases cur with
                      | true =>
                        go_wp2_with fail
                        go_roundw
                        case rel => first | exact ⟨k1 + 1, HLK.out, nr_idx k1, by rw [HNX.out]; rfl, HG9⟩ | exact ⟨k1 + 1, HLK.out, nx_idx HLK.out hRl, by rw [HNX.out]; rfl, HG9⟩
                        case measure => first | exact nr_meas HLK.out | exact nx_meas HLK.out hRl
                      | false =>
                        go_wp2_with fail
                        refine HFR.out.mono ?_
                        rintro e w16 ⟨rfl, hb⟩
                        have HG10 := hid (FB.out _ _ HG9.out hb)
                        have c1 := HBK.out _ HG10.out
                        clear hb
                        go_wp2_with fail
                        go_roundw
                        case rel => first | exact ⟨k1 + 1, HLK.out, nr_idx k1, by rw [HNX.out]; rfl, HG10⟩ | exact ⟨k1 + 1, HLK.out, nx_idx HLK.out hRl, by rw [HNX.out]; rfl, HG10⟩
                        case measure => first | exact nr_meas HLK.out | exact nx_meas HLK.out hRl
                    · have hkI1 : ¬ (k1 : Int) < (R.length : Int) := by omega
                      have hke : k1 = R.length := by omega
                      subst hke
                      rw [List.take_length, ← HBO2.out]
                      have c1 := HBC.out _ HG9.out
                      clear hlk
                      cases bi with
                      | true =>
                        go_wp2_with fail
                        go_roundw
                        case rel => first | exact ⟨i2 + 1, HLT.out, nr_idx i2, HG9⟩ | exact ⟨i2 + 1, HLT.out, nx_idx HLT.out hQl, HG9⟩
                        case measure => first | exact nr_meas HLT.out | exact nx_meas HLT.out hQl
                      | false =>
                        go_wp2_with fail
                        go_roundw
                        case rel => first | exact ⟨i2 + 1, HLT.out, nr_idx i2, HG9⟩ | exact ⟨i2 + 1, HLT.out, nx_idx HLT.out hQl, HG9⟩
                        case measure => first | exact nr_meas HLT.out | exact nx_meas HLT.out hQl
                · have hiI2 : ¬ (i2 : Int) < (Q0.length : Int) := by omega
                  have HE := hid (HBW.out _ (FG.out _ HG7.out).bl)
                  clear hlt HG7
                  go_wp2_with fail
                  go_ret
                  exact ⟨rfl, HE.out⟩
end Ve
end Go.Proofs.YtjhiajeeijfkeaaGreatDoor

/-
  pewholderlaw2.DownAgain: the inputs that are too long, or whose place is before the first; and all together.
-/
namespace Go.Proofs.YtjhiajeeijfkeaaGreatDoor
open Go.RowKit Go.Maps
namespace Ve

set_option maxRecDepth 100000 in
set_option maxHeartbeats 2000000 in
theorem da_long1 (Q0 : List Raw) (L : List Ent) (roots caps : List Bm) (v u s : Value) (A : Nat → Addr) (m : Int) (w : World) (at_ : Int) (S : Te w A m) (I : Ixs w v Q0 L) (hr : MsAt w u roots) (hc : MsAt w s caps) (hok : okI L = false) :
    Calls Tryz.prog 5 #[v, u, s, .int .i64 at_] w fun e w' => e = .returned (.bool true) ∧ Below w.heap.size w w' := by
  obtain ⟨a0, c0, hv0, -⟩ := id I.es
  subst hv0
  obtain ⟨ra, rc, hu0, -⟩ := id hr
  subst hu0
  obtain ⟨ca, cc, hs0, -⟩ := id hc
  subst hs0
  have HIN := hid (low_any A m w S)
  have HLO := hid (fun W (h : Below w.heap.size w W) => longI_any Q0 L _ W (I.below h))
  rw [hok] at HLO
  clear S I hok hr hc
  go_enter Tryz.func5, Tryz.ntmps5
  go_wp2_with fail
  refine HIN.out.mono ?_
  rintro e w1 ⟨rfl, hb⟩
  have HB1 := hid hb
  clear hb
  go_wp2_with fail
  refine (HLO.out w1 HB1.out).mono ?_
  rintro e w2 ⟨rfl, hb⟩
  have HB2 := hid (HB1.out.trans (hb.mono HB1.out.size))
  clear hb
  go_wp2_with fail
  go_ret
  exact ⟨rfl, HB2.out⟩
set_option maxRecDepth 100000 in
set_option maxHeartbeats 2000000 in
theorem da_long2 (Q0 : List Raw) (L : List Ent) (roots caps : List Bm) (v u s : Value) (A : Nat → Addr) (m : Int) (w : World) (at_ : Int) (S : Te w A m) (I : Ixs w v Q0 L) (hr : MsAt w u roots) (hc : MsAt w s caps) (a b : Int) (hok : okI L = true) (hx : (if okLN 15 roots then (0 : Int) else 1) = a) (hy : (if okLN 15 caps then (0 : Int) else 1) = b) (hxy : (a = 1 ∧ b = 0) ∨ (a = 0 ∧ b = 1) ∨ (a = 1 ∧ b = 1)) :
    Calls Tryz.prog 5 #[v, u, s, .int .i64 at_] w fun e w' => e = .returned (.bool true) ∧ Below w.heap.size w w' := by
  obtain ⟨a0, c0, hv0, -⟩ := id I.es
  subst hv0
  obtain ⟨ra, rc, hu0, -⟩ := id hr
  subst hu0
  obtain ⟨ca, cc, hs0, -⟩ := id hc
  subst hs0
  have HIN := hid (low_any A m w S)
  have HLO := hid (fun W (h : Below w.heap.size w W) => longI_any Q0 L _ W (I.below h))
  rw [if_pos hok] at HLO
  have HLM := hid (fun W (h : Below w.heap.size w W) => longN_any 15 (by decide) roots _ W (hr.below h))
  rw [hx] at HLM
  have HLS := hid (fun W (h : Below w.heap.size w W) => longN_any 15 (by decide) caps _ W (hc.below h))
  rw [hy] at HLS
  clear S I hok hr hc hx hy
  rcases hxy with ⟨rfl, rfl⟩ | ⟨rfl, rfl⟩ | ⟨rfl, rfl⟩
  all_goals
    go_enter Tryz.func5, Tryz.ntmps5
    go_wp2_with fail
    refine HIN.out.mono ?_
    rintro e w1 ⟨rfl, hb⟩
    have HB1 := hid hb
    clear hb
    go_wp2_with fail
    refine (HLO.out w1 HB1.out).mono ?_
    rintro e w2 ⟨rfl, hb⟩
    have HB2 := hid (HB1.out.trans (hb.mono HB1.out.size))
    clear hb
    go_wp2_with fail
    refine (HLM.out w2 HB2.out).mono ?_
    rintro e w2a ⟨rfl, rfl⟩
    go_wp2_with fail
    refine (HLS.out w2a HB2.out).mono ?_
    rintro e w2b ⟨rfl, rfl⟩
    go_wp2_with fail
    go_ret
    exact ⟨rfl, HB2.out⟩
set_option maxRecDepth 100000 in
set_option maxHeartbeats 2000000 in
theorem da_long3 (Q0 : List Raw) (L : List Ent) (roots caps : List Bm) (v u s : Value) (A : Nat → Addr) (m : Int) (w : World) (at_ : Int) (S : Te w A m) (I : Ixs w v Q0 L) (hr : MsAt w u roots) (hc : MsAt w s caps) (hok : okI L = true) (hrk : okLN 15 roots = true) (hck : okLN 15 caps = true) (hat : at_ < 0) :
    Calls Tryz.prog 5 #[v, u, s, .int .i64 at_] w fun e w' => e = .returned (.bool true) ∧ Below w.heap.size w w' := by
  obtain ⟨a0, c0, hv0, -⟩ := id I.es
  subst hv0
  obtain ⟨ra, rc, hu0, -⟩ := id hr
  subst hu0
  obtain ⟨ca, cc, hs0, -⟩ := id hc
  subst hs0
  have HIN := hid (low_any A m w S)
  have HLO := hid (fun W (h : Below w.heap.size w W) => longI_any Q0 L _ W (I.below h))
  rw [if_pos hok] at HLO
  have HLM := hid (fun W (h : Below w.heap.size w W) => longN_any 15 (by decide) roots _ W (hr.below h))
  rw [if_pos hrk] at HLM
  have HLS := hid (fun W (h : Below w.heap.size w W) => longN_any 15 (by decide) caps _ W (hc.below h))
  rw [if_pos hck] at HLS
  clear S I hok hr hc hrk hck
  go_enter Tryz.func5, Tryz.ntmps5
  go_wp2_with fail
  refine HIN.out.mono ?_
  rintro e w1 ⟨rfl, hb⟩
  have HB1 := hid hb
  clear hb
  go_wp2_with fail
  refine (HLO.out w1 HB1.out).mono ?_
  rintro e w2 ⟨rfl, hb⟩
  have HB2 := hid (HB1.out.trans (hb.mono HB1.out.size))
  clear hb
  go_wp2_with fail
  refine (HLM.out w2 HB2.out).mono ?_
  rintro e w2a ⟨rfl, rfl⟩
  go_wp2_with fail
  refine (HLS.out w2a HB2.out).mono ?_
  rintro e w2b ⟨rfl, rfl⟩
  go_wp2_with fail
  go_ret
  exact ⟨rfl, HB2.out⟩
theorem downAgain_any (Q0 : List Raw) (L : List Ent) (roots caps : List Bm) (v u s : Value) (A : Nat → Addr) (m : Int) (w : World) (at_ : Int) (S : Te w A m) (I : Ixs w v Q0 L) (em : EmI Q0 L) (hr : MsAt w u roots) (her : Em u roots) (hc : MsAt w s caps) (hec : Em s caps) :
    Calls Tryz.prog 5 #[v, u, s, .int .i64 at_] w fun e w' => e = .returned (.bool true) ∧ Below w.heap.size w w' := by
  cases hok : okI L with
  | false => exact da_long1 Q0 L roots caps v u s A m w at_ S I hr hc hok
  | true =>
    cases hrk : okLN 15 roots <;> cases hck : okLN 15 caps
    case true.true =>
      by_cases hat : at_ < 0
      · exact da_long3 Q0 L roots caps v u s A m w at_ S I hr hc hok hrk hck hat
      · exact da_main Q0 L roots caps v u s A m w S I em hr her hc hec hok hrk hck at_ hat
    all_goals exact da_long2 Q0 L roots caps v u s A m w at_ S I hr hc _ _ hok rfl rfl (by rw [hrk, hck]; decide)
end Ve
end Go.Proofs.YtjhiajeeijfkeaaGreatDoor

/-
  An index and a row of modules that a caller hands in, opened.
-/
namespace Go.Proofs.YtjhiajeeijfkeaaGreatDoor
open Go.ChangeShapes Go.WideShapes Go.ChangeAt Go.RowKit Go.ChangeMaps Go.Joins
namespace Ve

theorem oCellsMod : Tryz.prog.cellsOf 36 = 2 := by kernel_rfl
theorem oCellsStr : Tryz.prog.cellsOf 9 = 1 := by kernel_rfl
theorem oCellsEnt : Tryz.prog.cellsOf 55 = 5 := by kernel_rfl
theorem oCellsMods : Tryz.prog.cellsOf 23 = 1 := by kernel_rfl
theorem oCellsSstr : Tryz.prog.cellsOf 53 = 1 := by kernel_rfl
theorem oCellsBool : Tryz.prog.cellsOf 4 = 1 := by kernel_rfl
/-- The bytes of a string; none of what is no string. -/
def strOf : Value → ByteArray
  | .string s => s
  | _ => ⟨#[]⟩
set_option maxRecDepth 100000 in
/-- A row of modules, opened. -/
theorem open_ms {H : Type} {enc : TypeId × Value → H} {w : World} {base fuel : Nat} {held : Bool} {v : Value} {x : DataW H × List MemPlace}
    (h : DataW.trod enc Tryz.prog w base (fun _ => true) held fuel 23 [v] = some x) : ∃ L, MsAt w v L ∧ Em v L := by
  rcases Go.Deep.open_slice_pairs Tryz.underlying23 Tryz.underlying36 oCellsMod rfl rfl oCellsStr oCellsStr h with ⟨hcs, _⟩ | ⟨a, len, cap, m, n, V0, V1, D0, D1, P0, P1, hcs, _, hl, _, hm, _, hx⟩
  · simp only [List.cons.injEq, and_true] at hcs
    subst hcs
    exact ⟨[], ⟨none, 0, rfl, Nat.le_refl _, fun h => absurd rfl h⟩, fun a c e _ => Or.inl e.symm⟩
  · simp only [List.cons.injEq, and_true] at hcs
    subst hcs
    simp only [if_true] at hm
    subst hm
    have hlen : ((List.range len).map fun i => (strOf (V0 i), strOf (V1 i))).length = len := by simp
    refine ⟨(List.range len).map fun i => (strOf (V0 i), strOf (V1 i)), ⟨some a, m, by rw [hlen], by rw [hlen]; exact hl, fun hne => ?_⟩, fun a' c e h0 => ?_⟩
    · have h0l : 0 < len := by rw [← hlen]; exact List.length_pos_iff.2 hne
      obtain ⟨b, off, spot⟩ := a
      have hspot : spot = none := by simpa [Addr.add] using World.cell?_spot (hx 0 (by omega)).1
      subst hspot
      refine ⟨b, off, rfl, fun j hj => ?_⟩
      have hj2 : j < len := by rw [← hlen]; exact hj
      obtain ⟨g0, g1, t0, t1⟩ := hx j (by omega)
      obtain ⟨s0, e0, _, _⟩ := DataW.trod_string Tryz.underlying9 t0
      obtain ⟨s1, e1, _, _⟩ := DataW.trod_string Tryz.underlying9 t1
      simp only [List.cons.injEq, and_true] at e0 e1
      rw [e0] at g0
      rw [e1] at g1
      simp only [List.getElem_map, List.getElem_range, e0, e1]
      rw [Addr.add_lit] at g0 g1
      exact ⟨g0, g1⟩
    · have hz : len = 0 := by rw [← hlen, h0]; rfl
      rw [hlen] at e
      subst hz
      right
      injection e with e1 e2 e3
      exact ⟨a, by rw [← e1]⟩
set_option maxRecDepth 100000 in
/-- A row of texts, opened. -/
theorem open_tx {H : Type} {enc : TypeId × Value → H} {w : World} {base fuel : Nat} {held : Bool} {v : Value} {x : DataW H × List MemPlace}
    (h : DataW.trod enc Tryz.prog w base (fun _ => true) held fuel 53 [v] = some x) : ∃ X, TxAt w v X ∧ EmT v X := by
  rcases open_strings Tryz.underlying53 Tryz.underlying9 oCellsStr h with ⟨hcs, _⟩ | ⟨a, len, cap, ss, hcs, _, hl, _, hm, _, hx, _⟩
  · simp only [List.cons.injEq, and_true] at hcs
    subst hcs
    exact ⟨[], ⟨none, 0, rfl, Nat.le_refl _, fun h => absurd rfl h⟩, fun a c e _ => Or.inl e.symm⟩
  · simp only [List.cons.injEq, and_true] at hcs
    subst hcs
    simp only [if_true] at hm
    have hlen : (ss.take len).length = len := by rw [List.length_take]; omega
    refine ⟨ss.take len, ⟨some a, cap, by rw [hlen], by rw [hlen]; exact hl, fun hne => ?_⟩, fun a' c e h0 => ?_⟩
    · have h0l : 0 < len := by rw [← hlen]; exact List.length_pos_iff.2 hne
      obtain ⟨b, off, spot⟩ := a
      have hspot : spot = none := by simpa [Addr.add] using World.cell?_spot (hx 0 (by omega))
      subst hspot
      refine ⟨b, off, rfl, fun j hj => ?_⟩
      have hj2 : j < len := by rw [← hlen]; exact hj
      have g := hx j (by omega)
      rw [Addr.add_lit, List.getD_eq_getElem?_getD, List.getElem?_eq_getElem (by omega)] at g
      rw [List.getElem_take]
      exact g
    · have hz : len = 0 := by rw [← hlen, h0]; rfl
      rw [hlen] at e
      subst hz
      right
      injection e with e1 e2 e3
      exact ⟨a, by rw [← e1]⟩
set_option maxRecDepth 100000 in
/-- An entry, opened. -/
theorem open_ent {H : Type} {enc : TypeId × Value → H} {w : World} {base fuel : Nat} {held : Bool} {cs : List Value} {x : DataW H × List MemPlace}
    (h : DataW.trod enc Tryz.prog w base (fun _ => true) held fuel 55 cs = some x) : ∃ (r : Raw) (e : Ent), cs = rowR r ∧ slR r ∧ RawOk w r e ∧ Em r.2.1 e.2.1 ∧ EmT r.2.2.1 e.2.2.1 := by
  obtain ⟨y0, y1, y2, y3, n, _, hl, h0, h1, h2, h3⟩ := trod_struct4 Tryz.underlying55 h
  rw [oCellsEnt] at hl
  match cs, hl with
  | [c0, c1, c2, c3, c4], _ =>
    simp only [oCellsMod, oCellsMods, oCellsSstr, oCellsBool, List.drop, List.take] at h0 h1 h2 h3
    obtain ⟨z0, z1, n2, _, _, k0, k1⟩ := trod_struct2 Tryz.underlying36 h0
    simp only [oCellsStr, List.drop, List.take] at k0 k1
    obtain ⟨s0, e0, _, _⟩ := DataW.trod_string Tryz.underlying9 k0
    obtain ⟨s1, e1, _, _⟩ := DataW.trod_string Tryz.underlying9 k1
    obtain ⟨R, hR, hER⟩ := open_ms h1
    obtain ⟨X, hX, hEX⟩ := open_tx h2
    obtain ⟨b, e4, _⟩ := DataW.trod_bool Tryz.underlying4 h3
    simp only [List.cons.injEq, and_true] at e0 e1 e4
    subst e0 e1 e4
    refine ⟨((s0, s1), c2, c3, b), ((s0, s1), R, X, b), rfl, ⟨?_, ?_⟩, ⟨rfl, hR, hX, rfl⟩, hER, hEX⟩
    · obtain ⟨a, c, e, _⟩ := hR; exact ⟨_, _, _, e⟩
    · obtain ⟨a, c, e, _⟩ := hX; exact ⟨_, _, _, e⟩
set_option maxRecDepth 100000 in
/-- An index, opened. -/
theorem open_ix {H : Type} {enc : TypeId × Value → H} {w : World} {base fuel : Nat} {held : Bool} {v : Value} {x : DataW H × List MemPlace}
    (h : DataW.trod enc Tryz.prog w base (fun _ => true) held fuel 22 [v] = some x) : ∃ Q L, Ixs w v Q L ∧ EmI Q L := by
  rcases Go.Deep.open_slice Tryz.underlying22 h with ⟨hcs, _⟩ | ⟨a, len, cap, m, n, D, Pl, hcs, _, hl, _, hm, _, hx⟩
  · simp only [List.cons.injEq, and_true] at hcs
    subst hcs
    exact ⟨[], [], ⟨⟨none, 0, rfl, Nat.le_refl _, fun r hr => (by cases hr), fun h => absurd rfl h⟩, rfl, fun j h1 => absurd h1 (Nat.not_lt_zero _)⟩, fun j h1 => absurd h1 (Nat.not_lt_zero _)⟩
  · simp only [List.cons.injEq, and_true] at hcs
    subst hcs
    simp only [if_true] at hm
    subst hm
    have each : ∀ i, i < len → ∃ q : Raw × Ent, (∀ c (hc : c < 5), w.cell? (a.add (i * 5 + c)) = (rowR q.1)[c]?) ∧ slR q.1 ∧ RawOk w q.1 q.2 ∧ Em q.1.2.1 q.2.2.1 ∧ EmT q.1.2.2.1 q.2.2.2.1 := fun i hi => by
      obtain ⟨cs', h1, h2⟩ := hx i (by omega)
      obtain ⟨r, e, hcs, k1, k2, k3, k4⟩ := open_ent h2
      rw [oCellsEnt] at h1
      obtain ⟨_, hlen, hcell⟩ := World.cells?_some h1
      refine ⟨(r, e), fun c hc => ?_, k1, k2, k3, k4⟩
      have := hcell c (by omega)
      rw [Go.Deep.add_add] at this
      rw [this, hcs]
    obtain ⟨q, hq⟩ := Go.Deep.choose_lt each
    have hlq : ((List.range len).map fun i => (q i).1).length = len := by simp
    have hll : ((List.range len).map fun i => (q i).2).length = len := by simp
    refine ⟨(List.range len).map fun i => (q i).1, (List.range len).map fun i => (q i).2, ⟨⟨some a, m, by rw [hlq], by rw [hlq]; exact hl, fun r hr => ?_, fun hne => ?_⟩, by rw [hlq, hll], fun j h1 h2 => ?_⟩, fun j h1 h2 => ?_⟩
    · obtain ⟨i, hi, rfl⟩ := List.mem_map.1 hr
      exact (hq i (List.mem_range.1 hi)).2.1
    · have h0l : 0 < len := by rw [← hlq]; exact List.length_pos_iff.2 hne
      obtain ⟨b, off, spot⟩ := a
      have g0 := (hq 0 h0l).1 0 (by omega)
      have hspot : spot = none := by
        have : ∃ u, World.cell? w ((⟨b, off, spot⟩ : Addr).add (0 * 5 + 0)) = some u := ⟨_, g0⟩
        obtain ⟨u, hu⟩ := this
        simpa [Addr.add] using World.cell?_spot hu
      subst hspot
      refine ⟨b, off, rfl, fun j hj => ?_⟩
      have hj2 : j < len := by rw [← hlq]; exact hj
      have g := (hq j hj2).1
      simp only [List.getElem_map, List.getElem_range]
      refine ⟨?_, ?_, ?_, ?_, ?_⟩
      · have := g 0 (by omega); rw [Addr.add_lit] at this; exact this
      · have := g 1 (by omega); rw [Addr.add_lit] at this; exact this
      · have := g 2 (by omega); rw [Addr.add_lit] at this; exact this
      · have := g 3 (by omega); rw [Addr.add_lit] at this; exact this
      · have := g 4 (by omega); rw [Addr.add_lit] at this; exact this
    · have hj2 : j < len := by rw [← hlq]; exact h1
      simp only [List.getElem_map, List.getElem_range]
      exact (hq j hj2).2.2.1
    · have hj2 : j < len := by rw [← hlq]; exact h1
      simp only [List.getElem_map, List.getElem_range]
      exact (hq j hj2).2.2.2
end Ve
end Go.Proofs.YtjhiajeeijfkeaaGreatDoor

/-
  The plain wrap with a condition, the world's shape kept; variables laid over a world.
-/
namespace Go.Proofs.YtjhiajeeijfkeaaGreatDoor
open Go.ChangeShapes Go.WideShapes Go.ChangeAt Go.RowKit
namespace Ve

/-- The plain wrap with a condition, the world's shape kept. -/
theorem wrap_and_shaped {H : Type} {enc : TypeId × Value → H} {a : Assume} {C : Checked} {os : Go.Os} {f : FuncId} {fn : Func} {s : ChangeSpec} {conds : List PathCond} {apart fresh handsOn again : Bool} {X : World → Array Value → Prop}
    (hX : ∀ (w w' : World) (args : Array Value), w.heap = w'.heap → X w args → X w' args)
    (own : ownKnob C.prog.godebug = none) (started : os.Started) (noInit : C.prog.inits.idxOf? f = none) (hfn : C.prog.funcs[f]? = some fn)
    (witness : ∃ (w : World) (tape : Tape) (i : Input), w.os = os ∧ (w.forCall tape i).Shaped C.prog ∧ i.vars = [] ∧ Input.okWide C.prog (w.forCall tape i) .any w.heap.size f i ∧
      ((s.pre enc C.prog fn conds apart (w.forCall tape i).memory i.args ∧ X (w.forCall tape i).memory i.args) ∧ sizedMet enc C.prog fn (OpenSpec.ofChange s) apart (w.forCall tape i).memory i.args) ∧ a.holds C.prog (lone (Frame.enter C.prog f i.args .normal) [] (w.forCall tape i)))
    (contract : ∀ (W : World) (base : Nat) (args : Array Value) (ds gs : List (DataW H)) (before : List MemPlace),
      (∀ (j : Nat) t v, fn.params[j]? = some t → args[j]? = some v → Value.okWide C.prog W .any base t v) →
      DataW.Whole enc C.prog fn.params.toList s.vars apart W args.toList ds gs before → X W args → W.ShapedOpen C.prog →
      Calls C.prog f args W fun e W' => ∃ v, e = .returned v ∧ s.post enc C.prog fn apart fresh handsOn again W args v W') :
    ReturnsInHanded a C os f .any (fun w args => (s.pre enc C.prog fn conds apart w args ∧ X w args) ∧ sizedMet enc C.prog fn (OpenSpec.ofChange s) apart w args) (s.post enc C.prog fn apart fresh handsOn again) := by
  refine returnsInHanded_of_calls own started noInit witness ?_
  intro w tape i _ hsh _ hok hpre _
  obtain ⟨_, _, _, fn', hfn', _, _, _, _, hval⟩ := hok
  have e : fn' = fn := Option.some.inj (hfn'.symm.trans hfn)
  subst e
  obtain ⟨⟨⟨ds, gs, before, hw, _⟩, hx⟩, _⟩ := hpre
  have hw' := DataW.Whole.of_heap (w' := w.forCall tape i) (by rfl) hw
  refine (contract (w.forCall tape i) w.heap.size i.args ds gs before hval hw' (hX _ _ _ (by rfl) hx) hsh).mono fun e W' ⟨v, he, hp⟩ => ?_
  subst he
  exact ChangeSpec.post_blind hp

/-- All that is listed, laid over a world. -/
theorem laidMet_over {P : Program} {w0 : World} {laid : List (String × DataW Unit)} (args : Array Value)
    (hf : w0.layFits P laid [] = true) (hi : w0.layIfaces P laid (w0.layVars P laid) = true) :
    laidMet P laid ((w0.layVars P laid).forCall (fun _ _ => 0) ⟨#[], args, []⟩).memory := by
  have e1 : (laid.filter fun x => (laid.map (·.1)).contains x.1) = laid := List.filter_eq_self.2 fun x hx => List.contains_iff_mem.2 (List.mem_map.2 ⟨x, hx, rfl⟩)
  have e2 : (laid.filter fun x => !(laid.map (·.1)).contains x.1) = [] := List.filter_eq_nil_iff.2 fun x hx => by rw [List.contains_iff_mem.2 (List.mem_map.2 ⟨x, hx, rfl⟩)]; simp
  have h : laidMet P laid (w0.layVars P laid) := laidMet_layVars (w0 := w0) (laid.map (·.1)) [] (by rw [e1]) (by rw [e1]; exact hf) (by rw [e1]; exact hi) (by rw [e2]; exact LaidIn.none)
  exact h.of_heap (by simp [World.memory, World.forCall, Input.heap])
end Ve
end Go.Proofs.YtjhiajeeijfkeaaGreatDoor
