/-
  What has and IsUnder of the document's answer say; what rises of the statements says.
-/
import Derived.Test.YtjhiajeeijfkeaaGreatDoorDn6
import Derived.Test.YtjhiajeeijfkeaaGreatDoorDn3
import Derived.Test.YtjhiajeeijfkeaaGreatDoorDn4
import Derived.Test.YtjhiajeeijfkeaaGreatDoorCode
import Derived.Test.YtjhiajeeijfkeaaGreatDoorDn5
import Derived.Test.YtjhiajeeijfkeaaGreatDoorVerOA
import Derived.Deep.RegionHeld
namespace Go.Proofs.YtjhiajeeijfkeaaGreatDoor
open Go.RowKit Go.Maps
namespace Ve

theorem fpOf_kind (L : List Bm) (p : ByteArray) : (fpOf L p = -1 ∧ ∀ x, x ∈ L → decide (x.1 = p) = false) ∨ ∃ k, ∃ hk : k < L.length, fpOf L p = (k : Int) ∧ decide (L[k].1 = p) = true ∧ ∀ j (hj : j < L.length), j < k → decide (L[j].1 = p) = false := by
  unfold fpOf
  cases h : fstE (fpE L p) L.length with
  | none =>
    refine Or.inl ⟨rfl, fun x hx => decide_eq_false fun e => ?_⟩
    obtain ⟨j, hj, rfl⟩ := List.getElem_of_mem hx
    have := fstE_of_none h j hj
    rw [fpE_at hj, if_pos e] at this; cases this
  | some k =>
    obtain ⟨h1, h2, h3⟩ := fstE_of_some h
    refine Or.inr ⟨k, h1, rfl, decide_eq_true ?_, fun j hj hjk => decide_eq_false fun e => ?_⟩
    · rw [fpE_at h1] at h2
      by_cases e : L[k].1 = p
      · exact e
      · rw [if_neg e] at h2; exact absurd rfl h2
    · have := h3 j hjk
      rw [fpE_at hj, if_pos e] at this; cases this
end Ve
end Go.Proofs.YtjhiajeeijfkeaaGreatDoor

/-
  What is built, plain: what it has.
-/
namespace Go.Proofs.YtjhiajeeijfkeaaGreatDoor
open Go.RowKit Go.Maps
namespace Ve

theorem rX_mem {w : World} {v : Value} {Q : List Raw} {L : List Ent} {roots : List Bm} (I : Ixs w v Q L) (h : (chkG Q L roots).1 = 0) {m : Bm} : m ∈ rX Q L roots ↔ Rch (reqQ Q L) roots m := by
  unfold rX
  rw [if_pos h, List.mem_filter]
  constructor
  · rintro ⟨_, h1⟩; simpa using h1
  · intro h1; exact ⟨rch_univ I h h1, by simpa using h1⟩
theorem bX_univ {Q : List Raw} {L : List Ent} {roots : List Bm} : ∀ m, m ∈ bX Q L roots → m ∈ univ L := fun m hm => (rX_in ((bX_jn Q L roots).sub m hm).1).2
theorem bX_over {w : World} {v : Value} {Q : List Raw} {L : List Ent} {roots A : List Bm} (I : Ixs w v Q L) (h : (chkG Q L roots).1 = 0) (hA : ∀ m, m ∈ A → Rch (reqQ Q L) roots m) : undB A (bX Q L roots) = true :=
  (bX_jn Q L roots).over fun m hm => ⟨(rX_mem I h).2 (hA m hm), univ_right (chkG_chk h) m (rch_univ I h (hA m hm))⟩
theorem bX_in {w : World} {v : Value} {Q : List Raw} {L : List Ent} {roots : List Bm} (I : Ixs w v Q L) (h : (chkG Q L roots).1 = 0) {m : Bm} (hm : m ∈ bX Q L roots) : Rch (reqQ Q L) roots m := (rX_mem I h).1 ((bX_jn Q L roots).sub m hm).1
/-- A selection of the index. -/
structure Sl (L : List Ent) (E : List Bm) : Prop where
  ri : rising E
  un : ∀ m, m ∈ E → m ∈ univ L
theorem bX_sl (Q : List Raw) (L : List Ent) (roots : List Bm) : Sl L (bX Q L roots) := ⟨(bX_jn Q L roots).ri, bX_univ⟩
end Ve
end Go.Proofs.YtjhiajeeijfkeaaGreatDoor

/-
  What capped of the statements answers; the closed fact of chapter 8 (lowered).
-/
namespace Go.Proofs.YtjhiajeeijfkeaaGreatDoor
open Go.RowKit Go.Maps
namespace Ve

set_option maxRecDepth 100000 in
set_option maxHeartbeats 2000000 in
/-- pewholderlaw2.capped. -/
theorem capped_any (B : List Bm) (m : Bm) (v : Value) (w : World) (hB : B.length ≤ 1000000) (hs : ∀ x, x ∈ B → x.2.size < 999999) (hm : m.2.size < 999999) (hv : MsAt w v B) :
    Calls Tryz.prog 13 #[v, .agg #[.string m.1, .string m.2]] w fun e w' => e = .returned (.bool (capB B m)) ∧ Below w.heap.size w w' := by
  obtain ⟨p, q⟩ := m
  simp only at hm
  have HB0 := hid ((Below.refl w.heap.size w).alloc (Nat.le_refl _) (.cells #[.string p, .string q] 36))
  have HF := hid (fp_is B p v _ hB (hv.below HB0.out))
  obtain ⟨va, vc, hv1, _, hvc⟩ := id hv
  subst hv1
  rcases fpOf_kind B p with ⟨e1, h2⟩ | ⟨k, hk, e1, h2, h3⟩
  · have HX := hid (capB_none (m := (p, q)) fun c hc => of_decide_eq_false (h2 c hc))
    rw [e1] at HF
    clear hv hvc e1 h2
    go_enter Tryz.func13, Tryz.ntmps13
    go_wp2_with fail
    refine HF.out.mono ?_
    rintro e w1 ⟨rfl, rfl⟩
    go_wp2_with fail
    go_ret
    exact ⟨ret_bool (by rw [HX.out]), HB0.out⟩
  · have HX := hid (capB_at (m := (p, q)) (atP_first hk (of_decide_eq_true h2) fun j hj hjk => of_decide_eq_false (h3 j hj hjk)))
    rw [e1] at HF
    obtain ⟨bb, o, hva, hcell⟩ := hvc (fun e => by rw [e] at hk; exact absurd hk (Nat.not_lt_zero _))
    subst hva
    have HC := hid (hcell k hk)
    have hz := hs B[k] (List.getElem_mem hk)
    have hk0 : ¬ (k : Int) < 0 := by omega
    have hkI : (k : Int) < (B.length : Int) := by omega
    have hkJ : (0 : Int) ≤ (k : Int) := by omega
    generalize B[k] = x at *
    obtain ⟨x1, x2⟩ := x
    simp only at hz
    have HL := hid (fun W => isLess_any x2 q W hz hm)
    have y0 := cell_below HB0.out HC.out.1
    have y1 := cell_below HB0.out HC.out.2
    have HXX := hid (show capB B (p, q) = (decide (x2.data.toList = noneL) || lessB x2.data.toList q.data.toList) from HX.out)
    generalize lessB x2.data.toList q.data.toList = z at *
    obtain ⟨nb, hnb, hnd⟩ : ∃ nb : Bool, (x2.toList == [110, 111, 110, 101]) = nb ∧ decide (x2.data.toList = noneL) = nb := by
      by_cases h : x2.data.toList = noneL
      · exact ⟨true, by rw [ByteArray.toList_eq]; exact beq_iff_eq.2 h, decide_eq_true h⟩
      · exact ⟨false, by rw [ByteArray.toList_eq]; exact beq_eq_false_iff_ne.2 h, decide_eq_false h⟩
    rw [hnd] at HXX
    clear hv hvc e1 h2 h3 hcell hs HX hnd
    go_enter Tryz.func13, Tryz.ntmps13
    go_wp2_with fail
    refine HF.out.mono ?_
    rintro e w1 ⟨rfl, rfl⟩
    obtain ⟨Wa, hWa⟩ : ∃ Wa, w.alloc (.cells #[.string p, .string q] 36) = Wa := ⟨_, rfl⟩
    have b0 : Wa.cell? ⟨w.heap.size, 0, none⟩ = some (.string p) := by rw [← hWa]; simp
    have b1 : Wa.cell? ⟨w.heap.size, 1, none⟩ = some (.string q) := by rw [← hWa]; simp
    rw [hWa] at HB0 y0 y1 ⊢
    have HT := hid (fun W' (hW : Below Wa.heap.size Wa W') => (show (fun W' => W'.cell? ⟨bb, o + k * 2, none⟩ = some (.string x1) ∧ W'.cell? ⟨bb, o + k * 2 + 1, none⟩ = some (.string x2) ∧ W'.cell? ⟨w.heap.size, 0, none⟩ = some (.string p) ∧ W'.cell? ⟨w.heap.size, 1, none⟩ = some (.string q) ∧ Hid (Below Wa.heap.size Wa W')) W' from ⟨cell_below hW y0, cell_below hW y1, cell_below hW b0, cell_below hW b1, hid hW⟩))
    clear hWa
    go_wp2_with fail
    go_region_held (fun W' => W'.cell? ⟨bb, o + k * 2, none⟩ = some (.string x1) ∧ W'.cell? ⟨bb, o + k * 2 + 1, none⟩ = some (.string x2) ∧ W'.cell? ⟨w.heap.size, 0, none⟩ = some (.string p) ∧ W'.cell? ⟨w.heap.size, 1, none⟩ = some (.string q) ∧ Hid (Below Wa.heap.size Wa W')) (first | exact HT.out _ HRa.out | exact HT.out _ (below_drawn _ 1)) (first
      | (go_at_call 15; refine (HL.out _).mono ?_; rintro e w' ⟨rfl, hb⟩; have HRa := hid ((below_drawn Wa 1).trans (hb.mono (Nat.le_refl _))); clear hb))
    all_goals
      have HB := hid (HB0.out.trans (HRa.out.mono HB0.out.size))
      obtain ⟨u0, u1, -, -, -⟩ := HT.out _ HRa.out
      clear y0 y1 b0 b1
      cases z
      · go_wp2_with fail
        go_ret
        exact ⟨ret_bool (by rw [HXX.out, Bool.or_false]), HB.out⟩
      · go_wp2_with fail
        go_ret
        exact ⟨ret_bool (by rw [HXX.out, Bool.or_true]), HB.out⟩
/-- What the roots become is as its plain words say. -/
theorem toL_tw {Q : List Raw} {L : List Ent} {roots caps : List Bm} (h : (tF Q L roots caps).1 = 0) : Tw (Bd (reqQ Q L) caps) (univ L) roots (toL Q L roots caps) := by
  obtain ⟨h1, h2⟩ := tF_ok h
  obtain ⟨k0, k1⟩ := bF_chk h1
  exact tw_sel ⟨univ_rises k0, univ_right k0⟩ (by rw [bdL_len, univ_len]) (fun i h h' => bdL_at h h') roots
theorem ms_one1 {W : World} {b : Nat} {x : Bm} {fr : Nat × Nat} (h : W.heap[b]? = some (.cells #[.string x.1, .string x.2] 36 fr)) : MsAt W (.slice (some ⟨b, 0, none⟩) 1 1) [x] := by
  refine ⟨_, 1, rfl, Nat.le_refl _, fun _ => ⟨b, 0, rfl, fun j hj => ?_⟩⟩
  have : j = 0 := by simp at hj; exact hj
  subst this
  exact ⟨by rw [Lib.cell_of_heap h]; rfl, by rw [Lib.cell_of_heap h]; rfl⟩
def mbN : Bm := (⟨#[98]⟩, ⟨#[110, 111, 110, 101]⟩)
theorem lo_caps : (chkP [mbN]).1 = 0 := by kernel_rfl
theorem lo_tF (g : Nat) : (tF (smQ g) smL [ma1] [mbN]).1 = 0 := by
  have h1 : bF (smQ g) smL [mbN] = chkP [mbN] := if_pos (by rw [sm_chk])
  have h2 : (bF (smQ g) smL [mbN]).1 = 0 := by rw [h1]; exact lo_caps
  unfold tF
  rw [if_pos h2]
  exact sm_chkG g
theorem lo_c0 : capB [mbN] ma0 = false := by kernel_rfl
theorem lo_cb : capB [mbN] mb0 = true := by kernel_rfl
theorem lo_r0 (g : Nat) : reqQ (smQ g) smL ma0 = [] := by kernel_rfl
theorem lo_less : lessB (vb ma1) (vb ma0) = false := by kernel_rfl
theorem lo_ab : mb0.1 ≠ ma1.1 := fun e => absurd (congrArg (fun m : ByteArray => m.data) e) (by decide)
theorem lo_good {g : Nat} : ¬ Bd (reqQ (smQ g) smL) [mbN] ma0 := fun h => by
  rcases bd_iff.1 h with h | ⟨r, h, _⟩
  · rw [lo_c0] at h; cases h
  · rw [lo_r0] at h; cases h
theorem lo_bad {g : Nat} : Bd (reqQ (smQ g) smL) [mbN] ma1 :=
  bd_iff.2 (Or.inr ⟨mb0, by rw [sm_r1]; simp, bd_iff.2 (Or.inl lo_cb)⟩)
theorem lo_lw {g : Nat} : Lw (Bd (reqQ (smQ g) smL) [mbN]) (univ smL) ma1 ma0 := by
  refine ⟨by simp [univ, smL], rfl, lo_less, lo_good, fun y hy e _ hb => ?_⟩
  have : y = ma0 ∨ y = ma1 ∨ y = mb0 := by simpa [univ, smL] using hy
  rcases this with rfl | rfl | rfl
  · exact lessB_irr _
  · exact absurd lo_bad hb
  · exact absurd e lo_ab
theorem lo_to (g : Nat) : toL (smQ g) smL [ma1] [mbN] = [ma0] := by
  have h := toL_tw (lo_tF g)
  have u : Un (univ smL) := ⟨univ_rises (Q := smQ g) (by rw [sm_chk]), univ_right (Q := smQ g) (by rw [sm_chk])⟩
  refine h.one ⟨List.pairwise_singleton _ _, fun x => ⟨fun hx => ⟨ma1, by simp, by rw [List.mem_singleton.1 hx]; exact lo_lw⟩, fun ⟨r, hr, hw⟩ => ?_⟩⟩
  rw [List.mem_singleton.1 hr] at hw
  rw [hw.same u lo_lw]; simp
set_option maxRecDepth 100000 in
set_option maxHeartbeats 4000000 in
/-- pewholderlaw2.lowered. -/
theorem low_any (A : Nat → Addr) (m : Int) (w : World) (S : Te w A m) : Calls Tryz.prog 6 #[] w fun e w' => e = .returned (.bool true) ∧ Below w.heap.size w w' := by
  have HSM := hid smallI_any
  have HS := hid S
  clear S
  go_enter Tryz.func6, Tryz.ntmps6
  go_wp2_with fail
  refine (HSM.out w).mono ?_
  rintro e w1 ⟨g, q, rfl, hix, hb⟩
  have hBa := (Below.refl w1.heap.size w1).alloc (Nat.le_refl _) (.cells #[.string ⟨#[97]⟩, .string ⟨#[118, 49, 46, 49, 46, 48]⟩] 36)
  have hBb := hBa.alloc hBa.size (.cells #[.string ⟨#[98]⟩, .string ⟨#[110, 111, 110, 101]⟩] 36)
  have hB1 := hb.trans (hBb.mono hb.size)
  have n1 := heap_old (w1.alloc (.cells #[.string ⟨#[97]⟩, .string ⟨#[118, 49, 46, 49, 46, 48]⟩] 36)) (.cells #[.string ⟨#[98]⟩, .string ⟨#[110, 111, 110, 101]⟩] 36) (heap_new w1 (.cells #[.string ⟨#[97]⟩, .string ⟨#[118, 49, 46, 49, 46, 48]⟩] 36))
  have n2 := heap_new (w1.alloc (.cells #[.string ⟨#[97]⟩, .string ⟨#[118, 49, 46, 49, 46, 48]⟩] 36)) (.cells #[.string ⟨#[98]⟩, .string ⟨#[110, 111, 110, 101]⟩] 36)
  have hz : (w1.alloc (.cells #[.string ⟨#[97]⟩, .string ⟨#[118, 49, 46, 49, 46, 48]⟩] 36)).heap.size = w1.heap.size + 1 := by simp
  rw [hz] at n2
  have HTO := hid (to_good (smQ g) smL [ma1] [mbN] _ (.slice (some ⟨w1.heap.size, 0, none⟩) 1 1) (.slice (some ⟨w1.heap.size + 1, 0, none⟩) 1 1) A m _ (by decide) (by decide) (by decide) sm_sh (fun x hx => by
    rw [List.mem_singleton.1 hx]
    exact ⟨show mbN.1.size < 999999 by decide, show mbN.2.size < 999999 by decide⟩) (HS.out.below hB1) (hix.below hBb) (ms_one1 (x := ma1) n1) (ms_one1 (x := mbN) n2) (lo_tF g))
  rw [lo_to] at HTO
  have HB1 := hid hB1
  clear hix hb hBa hBb hB1 n1 n2 hz
  go_wp2_with fail
  refine HTO.out.mono ?_
  rintro e w2 ⟨u, rfl, ho, hb⟩
  have HB2 := hid (HB1.out.trans (hb.mono HB1.out.size))
  obtain ⟨ug, uc, hu, -, -, hmw⟩ := own_mw ho hb (by simp)
  have k1 : w2.cell? ⟨ug, 1, none⟩ = some (.string ⟨#[118, 49, 46, 48, 46, 48]⟩) := hmw.c1 0 (by decide)
  have s1 : ((⟨#[118, 49, 46, 48, 46, 48]⟩ : ByteArray).toList == (⟨#[118, 49, 46, 48, 46, 48]⟩ : ByteArray).toList) = true := by simp
  rw [show ([ma0] : List Bm).length = 1 from rfl] at hu
  subst hu
  clear ho hb hmw HTO
  go_wp2_with fail
  go_ret
  exact ⟨rfl, HB2.out⟩
end Ve
end Go.Proofs.YtjhiajeeijfkeaaGreatDoor

/-
  What graph.Edges answers.
-/
namespace Go.Proofs.YtjhiajeeijfkeaaGreatDoor
open Go.RowKit Go.Maps
namespace Ve

/-- How long a slice is. -/
def lenV : Value → Nat
  | .slice _ n _ => n
  | _ => 0
/-- How many requirements there are in all. -/
def sumR : List Raw → Nat
  | [] => 0
  | r :: X => lenV r.2.1 + sumR X
theorem sumR_app : ∀ (X Y : List Raw), sumR (X ++ Y) = sumR X + sumR Y
  | [], Y => by simp [sumR]
  | r :: X, Y => by rw [List.cons_append]; show lenV r.2.1 + sumR (X ++ Y) = lenV r.2.1 + sumR X + sumR Y; rw [sumR_app X Y]; omega
theorem sumR_next {X : List Raw} {k : Nat} (hk : k < X.length) : sumR (X.take (k + 1)) = sumR (X.take k) + lenV X[k].2.1 := by
  rw [List.take_succ_eq_append_getElem hk, sumR_app]
  simp [sumR]
theorem sumR_le (B : Nat) : ∀ (X : List Raw), (∀ r, r ∈ X → lenV r.2.1 ≤ B) → sumR X ≤ X.length * B
  | [], _ => by simp [sumR]
  | r :: X, h => by
    have h1 := h r (by simp)
    have h2 := sumR_le B X fun x hx => h x (by simp [hx])
    have h3 : sumR (r :: X) = lenV r.2.1 + sumR X := rfl
    rw [h3, List.length_cons, Nat.succ_mul]
    omega
theorem sumR_take_le (X : List Raw) (k : Nat) (B : Nat) (h : ∀ r, r ∈ X → lenV r.2.1 ≤ B) : sumR (X.take k) ≤ X.length * B := by
  have h1 := sumR_le B (X.take k) fun r hr => h r (List.mem_of_mem_take hr)
  have h2 : (X.take k).length ≤ X.length := by rw [List.length_take]; omega
  exact Nat.le_trans h1 (Nat.mul_le_mul_right B h2)
theorem lenV_ms {w : World} {v : Value} {R : List Bm} (h : MsAt w v R) : lenV v = R.length := by
  obtain ⟨a, c, e, -⟩ := h
  rw [e]; rfl
theorem Ixs.lenR {w : World} {v : Value} {Q : List Raw} {L : List Ent} (I : Ixs w v Q L) (sh : ∀ e, e ∈ L → ShE e) : ∀ r, r ∈ Q → lenV r.2.1 ≤ 1000000 := fun r hr => by
  obtain ⟨k, hk, rfl⟩ := List.getElem_of_mem hr
  have hk' : k < L.length := by rw [← I.ln]; exact hk
  rw [lenV_ms (I.ok k hk hk').rq]
  exact (sh _ (List.getElem_mem hk')).rn
theorem sum_idx {s n : Nat} (h : s + n ≤ 2000000000) : Value.int .i64 (wrap64 ((s : Int) + (n : Int))) = .int .i64 ((s + n : Nat) : Int) := by
  rw [IntWalk.wrap64_in _ (by omega)]; rfl
end Ve
end Go.Proofs.YtjhiajeeijfkeaaGreatDoor

/-
  How far the document's answer says that one is off (FarOf).
-/
namespace Go.Proofs.YtjhiajeeijfkeaaGreatDoor
open Go.RowKit Go.Maps
namespace Ve

theorem rch_uni {w : World} {v : Value} {Q : List Raw} {L : List Ent} {roots : List Bm} (I : Ixs w v Q L) (h : (chkG Q L roots).1 = 0) {m : Bm} (hm : Rch (reqQ Q L) roots m) : m ∈ univ L := by
  have r := rgt_of I h
  induction hm with
  | root hr => exact r.r _ hr
  | step _ hr ih => exact chk_reqs0 I r.c _ ih _ hr
/-- Numbers in memory. -/
def iwc (F : List Nat) : Array Value := (F.map fun n : Nat => Value.int .i64 (n : Int)).toArray
theorem iwc_set (F : List Nat) (a n : Nat) : (iwc F).setIfInBounds a (.int .i64 (n : Int)) = iwc (F.set a n) := by
  unfold iwc
  rw [List.setIfInBounds_toArray, List.map_set]
theorem iwc_at {W : World} {g : Nat} {F : List Nat} (h : W.heap[g]? = some (.cells (iwc F) 3 (0, 0))) {a : Nat} (ha : a < F.length) : W.cell? ⟨g, a, none⟩ = some (.int .i64 (F[a] : Int)) := by
  rw [Lib.cell_of_heap h]
  simp [iwc, ha]
theorem made_ints (n : Nat) : madeCells (Value.int .i64 0).cells n = iwc (List.replicate n 0) := by
  unfold madeCells iwc
  simp [Value.cells]
  apply Array.ext
  · simp
  · intro i h1 h2
    simp [Nat.mod_one]
theorem make_ints (n : Nat) (w : World) (hn : n ≤ 1000000) : (Instr.makeSlice 110 (.int .i64 (n : Int)) (.int .i64 (n : Int))).run Tryz.prog w = .ok (.slice (some ⟨w.heap.size, 0, none⟩) n n) (w.alloc (.cells (iwc (List.replicate n 0)) 3)) := by
  obtain ⟨i0, hi, hz0, hz1, hz2⟩ := info_parts infoInt
  have h := run_makeSlice (P := Tryz.prog) w 110 3 i0 (.int .i64 0) Tryz.underlying110 hi hz0 .i64 .i64 (n : Int) (n : Int) (by omega) (by omega) (by rw [hz1]; simp; omega) (by rw [hz2]; omega) (by omega)
  rw [hz1] at h
  simp only [Int.toNat_natCast, Nat.mul_one] at h
  rw [made_ints] at h
  exact h
/-- How far, in memory. -/
structure Fas (w W : World) (g : Nat) (Q : List Raw) (L : List Ent) (roots : List Bm) (n i : Nat) (F : List Nat) : Prop where
  gg : w.heap.size = g
  bl : Below w.heap.size w W
  hp : W.heap[g]? = some (.cells (iwc F) 3 (0, 0))
  ok : Fr (reqQ Q L) (univ L) roots n i F
theorem Fas.below {w W W' : World} {g : Nat} {Q : List Raw} {L : List Ent} {roots : List Bm} {n i : Nat} {F : List Nat} (h : Fas w W g Q L roots n i F) (hb : Below W.heap.size W W') : Fas w W' g Q L roots n i F :=
  ⟨h.gg, h.bl.trans (hb.mono h.bl.size), (hb.block _ (lt_of_blk h.hp)).trans h.hp, h.ok⟩
theorem Fas.fr {w W : World} {g : Nat} {Q : List Raw} {L : List Ent} {roots : List Bm} {n i n' i' : Nat} {F : List Nat} (h : Fas w W g Q L roots n i F) (hf : Fr (reqQ Q L) (univ L) roots n' i' F) : Fas w W g Q L roots n' i' F := ⟨h.gg, h.bl, h.hp, hf⟩
theorem Fas.put {w W : World} {g : Nat} {Q : List Raw} {L : List Ent} {roots : List Bm} {n i k : Nat} {F : List Nat} (h : Fas w W g Q L roots n i F) {a : Nat} {x : Value} (hx : x = .int .i64 (k : Int)) (hf : Fr (reqQ Q L) (univ L) roots n i (F.set a k)) : Fas w (W.setCell ⟨g, a, none⟩ x) g Q L roots n i (F.set a k) :=
  ⟨h.gg, h.bl.setCell (by rw [h.gg]; exact Nat.le_refl _) _, by rw [set_block h.hp, hx, iwc_set], hf⟩
/-- Was it come to? -/
def AtF (U : List Bm) (F : List Nat) (m : Bm) : Prop := ∃ a, ∃ h : a < U.length, ∃ h' : a < F.length, U[a] = m ∧ F[a] ≠ 0
theorem AtF.set {U : List Bm} {F : List Nat} {m : Bm} (h : AtF U F m) (a n : Nat) : AtF U (F.set a (n + 1)) m := by
  obtain ⟨k, hk, hk', e1, e2⟩ := h
  refine ⟨k, hk, by rw [List.length_set]; exact hk', e1, ?_⟩
  by_cases hka : a = k
  · subst hka; rw [List.getElem_set_self]; omega
  · rw [List.getElem_set_ne hka]; exact e2
theorem AtF.new {U : List Bm} {F : List Nat} {a : Nat} (n : Nat) (ha : a < U.length) (hl : F.length = U.length) : AtF U (F.set a (n + 1)) U[a] :=
  ⟨a, ha, by rw [List.length_set, hl]; exact ha, rfl, by rw [List.getElem_set_self]; omega⟩
theorem AtF.at {U : List Bm} {F : List Nat} (hN : U.Nodup) {j : Nat} (hj : j < U.length) (hj' : j < F.length) (h : AtF U F U[j]) : F[j] ≠ 0 := by
  obtain ⟨k, hk, hk', e1, e2⟩ := h
  have hp := List.pairwise_iff_getElem.1 hN
  have : k = j := by
    rcases Nat.lt_trichotomy k j with h1 | h1 | h1
    · exact absurd e1 (hp k j hk hj h1)
    · exact h1
    · exact absurd e1.symm (hp j k hj hk h1)
  subst this
  exact e2
/-- What FarOf answers. -/
def FarR (Q : List Raw) (L : List Ent) (roots : List Bm) (m : Bm) (d : Nat) (f : Value) : Prop :=
  (¬ Rch (reqQ Q L) roots m ∧ d = 0 ∧ f = .agg #[.int .i64 5, .int .i64 (-1)]) ∨ (Dst (reqQ Q L) roots m d ∧ f = .agg #[.int .i64 0, .int .i64 (-1)])
end Ve
end Go.Proofs.YtjhiajeeijfkeaaGreatDoor

/-
  What faulted of the statements answers of an error with its own number and place: true; the sum of the requirements.
-/
namespace Go.Proofs.YtjhiajeeijfkeaaGreatDoor
open Go.RowKit Go.Maps
namespace Ve

theorem code_at2 (A : Nat → Addr) (x : Value) (c : Nat) (o : Option Nat) (w : World) (S : Er.Sen w A) (h : ErrAt w A x c o) (hc : c ≤ 10) :
    Calls Tryz.prog 33 #[x] w fun e w' => e = .returned (.tuple #[.int .i64 (c : Nat), .int .i64 (atOf o)]) ∧ Below w.heap.size w w' := by
  cases o with
  | none =>
    have h : x = errA A c := h
    subst h
    cases c with
    | zero => exact (Er.code_nil w).mono fun e w' h => ⟨h.1, by rw [h.2]; exact Below.refl _ _⟩
    | succ j => exact Er.code_sen A j w S (by omega)
  | some i =>
    obtain ⟨h0, b, rfl, h1, h2⟩ := h
    obtain ⟨j, rfl⟩ : ∃ j, c = j + 1 := ⟨c - 1, by omega⟩
    rw [errA_if A h0] at h2
    exact Er.code_fault b 0 i A j w S (by omega) (lt_of_cell h1) h1 h2
set_option maxHeartbeats 1000000 in
theorem faulted2_any (A : Nat → Addr) (x : Value) (r : Nat × Option Nat) (w : World) (S : Er.Sen w A) (h : ErrAt w A x r.1 r.2) (hc : r.1 ≤ 10) :
    Calls Tryz.prog 16 #[x, faultV r] w fun e w' => e = .returned (.bool true) ∧ Below w.heap.size w w' := by
  obtain ⟨c, o⟩ := r
  have HB0 := hid ((Below.refl w.heap.size w).alloc (Nat.le_refl _) (.cells #[.int .i64 (c : Nat), .int .i64 (atOf o)] 42))
  have HC := hid (code_at2 A x c o _ (S.below HB0.out) (h.below HB0.out) hc)
  unfold faultV
  simp only
  generalize atOf o = y at *
  generalize (c : Int) = z at *
  have e1 : (z == z) = true := beq_self_eq_true z
  have e2 : (y == y) = true := beq_self_eq_true y
  clear S h hc
  go_enter Tryz.func16, Tryz.ntmps16
  go_wp2_with fail
  refine HC.out.mono ?_
  rintro e w1 ⟨rfl, hb⟩
  obtain ⟨⟨r0, r1⟩, rz⟩ := res2 (hb.mono (by simp))
  have HB := hid (HB0.out.trans (hb.mono HB0.out.size))
  clear hb
  cases hz : (z == 0)
  all_goals
    go_wp2_with fail
    go_ret
    exact ⟨rfl, HB.out⟩
theorem modErr_err (p v : List UInt8) : modErr p v = 0 ∨ modErr p v = 1 ∨ modErr p v = 2 ∨ modErr p v = 4 := by
  unfold modErr
  by_cases h0 : pathErr p = 0
  · rw [if_pos h0]
    by_cases h1 : verErr v = 0
    · rw [if_pos h1]
      cases fitsB (nAt v 0) (pathN p)
      · right; right; right; rfl
      · left; rfl
    · rw [if_neg h1]
      rcases verErr_err v with h | h | h <;> omega
  · rw [if_neg h0]; exact pathErr_err p
theorem mErr_le (m : Bm) : mErr m ≤ 10 := by
  have := modErr_err m.1.data.toList m.2.data.toList
  unfold mErr; omega
theorem reqE_le (own : ByteArray) (L : List Bm) (i : Nat) : reqE own L i ≤ 10 := by
  unfold reqE
  split
  · omega
  · rename_i m _
    have := mErr_le m
    unfold reqW
    repeat' split
    all_goals omega
theorem codeE_le {E : Nat → Nat} {n : Nat} (h : ∀ i, E i ≤ 10) : codeE E n ≤ 10 := by
  cases h1 : fstE E n with
  | none => unfold codeE; rw [h1]; simp
  | some j => rw [codeE_some h1]; exact h j
theorem packErr_le (Z : List (List UInt8)) : packErr Z ≤ 10 := by
  unfold packErr
  repeat' split
  all_goals omega
theorem entR_le (e : Ent) : entR e ≤ 10 := by
  unfold entR
  repeat' split
  all_goals first | omega | exact codeE_le (reqE_le _ _) | exact packErr_le _
theorem entE_le (L : List Ent) (i : Nat) : entE L i ≤ 10 := by
  unfold entE
  split
  · omega
  · unfold entW
    repeat' split
    all_goals first | omega | exact mErr_le _ | exact entR_le _
theorem nonW_le (Q : List Raw) (m : Bm) : nonW Q m ≤ 10 := by
  unfold nonW
  split <;> omega
theorem nonE_le (Q : List Raw) (R : List Bm) (i : Nat) : nonE Q R i ≤ 10 := by
  unfold nonE
  split
  · omega
  · exact nonW_le _ _
theorem reqE2_le (Q : List Raw) (L : List Ent) (i : Nat) : reqE2 Q L i ≤ 10 := by
  unfold reqE2
  split
  · omega
  · exact codeE_le (nonE_le _ _)
theorem chk_le (Q : List Raw) (L : List Ent) : (chk Q L).1 ≤ 10 := by
  unfold chk
  repeat' split
  all_goals first | (simp only; omega) | exact entE_le _ _ | exact codeE_le (reqE2_le _ _)
theorem chkG_le (Q : List Raw) (L : List Ent) (roots : List Bm) : (chkG Q L roots).1 ≤ 10 := by
  unfold chkG
  split
  · exact chk_le _ _
  · exact codeE_le (nonE_le _ _)
/-- How many requirements modules have. -/
def sumM (req : Bm → List Bm) : List Bm → Nat
  | [] => 0
  | m :: X => (req m).length + sumM req X
theorem sumM_app (req : Bm → List Bm) : ∀ (X Y : List Bm), sumM req (X ++ Y) = sumM req X + sumM req Y
  | [], Y => by simp [sumM]
  | r :: X, Y => by
    have h := sumM_app req X Y
    simp only [List.cons_append, sumM, h]
    omega
theorem sumM_next (req : Bm → List Bm) {X : List Bm} {k : Nat} (hk : k < X.length) : sumM req (X.take (k + 1)) = sumM req (X.take k) + (req X[k]).length := by
  rw [List.take_succ_eq_append_getElem hk, sumM_app]
  simp [sumM]
theorem sumM_le (req : Bm → List Bm) (B : Nat) : ∀ (X : List Bm), (∀ r, r ∈ X → (req r).length ≤ B) → sumM req X ≤ X.length * B
  | [], _ => by simp [sumM]
  | r :: X, h => by
    have h1 := h r (by simp)
    have h2 := sumM_le req B X fun x hx => h x (by simp [hx])
    have h3 : sumM req (r :: X) = (req r).length + sumM req X := rfl
    rw [h3, List.length_cons, Nat.succ_mul]
    omega
theorem sumM_take_le (req : Bm → List Bm) (X : List Bm) (k B : Nat) (h : ∀ r, r ∈ X → (req r).length ≤ B) : sumM req (X.take k) ≤ X.length * B := by
  have h1 := sumM_le req B (X.take k) fun r hr => h r (List.mem_of_mem_take hr)
  have h2 : (X.take k).length ≤ X.length := by rw [List.length_take]; omega
  exact Nat.le_trans h1 (Nat.mul_le_mul_right B h2)
theorem sumR_M (req : Bm → List Bm) : ∀ (X : List Raw), (∀ r, r ∈ X → lenV r.2.1 = (req r.1).length) → sumR X = sumM req (X.map fun r => r.1)
  | [], _ => rfl
  | r :: X, h => by
    have h1 := h r (by simp)
    have h2 := sumR_M req X fun x hx => h x (by simp [hx])
    simp only [List.map_cons, sumR, sumM, h1, h2]
theorem len_req {w : World} {v : Value} {Q : List Raw} {L : List Ent} (I : Ixs w v Q L) (h : (chk Q L).1 = 0) : ∀ r, r ∈ Q → lenV r.2.1 = (reqQ Q L r.1).length := fun r hr => by
  obtain ⟨k, hk, rfl⟩ := List.getElem_of_mem hr
  have hk' : k < L.length := by rw [← I.ln]; exact hk
  have hu : k < (univ L).length := by rw [univ_len]; exact hk'
  rw [lenV_ms (I.ok k hk hk').rq, ← req_at I h hk' hu]
  rw [show (univ L)[k] = Q[k].1 by rw [(I.ok k hk hk').m]; simp [univ]]
theorem edges_sum {w : World} {v : Value} {Q : List Raw} {L : List Ent} (I : Ixs w v Q L) (h : (chk Q L).1 = 0) (T : By) : sumR (goQ T Q) = sumM (reqQ Q L) (goM T Q) :=
  sumR_M _ _ fun r hr => len_req I h r (List.mem_filter.1 hr).1
end Ve
end Go.Proofs.YtjhiajeeijfkeaaGreatDoor

/-
  Both sides of chapter 5 as one function each: what is reached, how many requirements, how far; what is refused.
-/
namespace Go.Proofs.YtjhiajeeijfkeaaGreatDoor
open Go.RowKit Go.Maps
namespace Ve

theorem rF_le (Q : List Raw) (L : List Ent) (roots : List Bm) : (rF Q L roots).1 ≤ 10 := by
  unfold rF
  split
  · simp
  · exact chkG_le _ _ _
theorem rX_sel {Q : List Raw} {L : List Ent} {roots : List Bm} {O : List Bool} (h : (chkG Q L roots).1 = 0) (hl : O.length = (univ L).length) (hO : ∀ i (hi : i < (univ L).length) (hi' : i < O.length), O[i] = true ↔ Rch (reqQ Q L) roots (univ L)[i]) : selO O (univ L) = rX Q L roots := by
  unfold rX
  rw [if_pos h]
  refine selO_filter O (univ L) _ hl fun i h1 h2 => ?_
  by_cases hr : Rch (reqQ Q L) roots (univ L)[i]
  · rw [(hO i h1 h2).2 hr]; simp [hr]
  · cases hc : O[i]
    · simp [hr]
    · exact absurd ((hO i h1 h2).1 hc) hr
open Classical in
/-- How far a module is off, and what is refused of it. -/
noncomputable def rW (Q : List Raw) (L : List Ent) (roots : List Bm) (m : Bm) : Nat × (Nat × Option Nat) := if (chkG Q L roots).1 = 0 then (if h : ∃ d, Dst (reqQ Q L) roots m d then (h.choose, (0, none)) else (0, (5, none))) else (0, chkG Q L roots)
theorem rW_same {Q Q' : List Raw} {L : List Ent} (h : Q.map (fun r => r.1) = Q'.map (fun r => r.1)) (roots : List Bm) (m : Bm) : rW Q L roots m = rW Q' L roots m := by unfold rW; rw [chkG_same h, reqQ_same h]
theorem rW_bad {Q : List Raw} {L : List Ent} {roots : List Bm} {m : Bm} (h : ¬ (chkG Q L roots).1 = 0) : rW Q L roots m = (0, chkG Q L roots) := if_neg h
theorem rW_some {Q : List Raw} {L : List Ent} {roots : List Bm} {m : Bm} {d : Nat} (h : (chkG Q L roots).1 = 0) (hd : Dst (reqQ Q L) roots m d) : rW Q L roots m = (d, (0, none)) := by
  unfold rW
  have he : ∃ d, Dst (reqQ Q L) roots m d := ⟨d, hd⟩
  rw [if_pos h, dif_pos he]
  rw [he.choose_spec.one hd]
theorem rW_none {Q : List Raw} {L : List Ent} {roots : List Bm} {m : Bm} (h : (chkG Q L roots).1 = 0) (hd : ¬ Rch (reqQ Q L) roots m) : rW Q L roots m = (0, (5, none)) := by
  unfold rW
  rw [if_pos h, dif_neg (fun ⟨d, hh⟩ => hd hh.1.rch)]
theorem rW_le (Q : List Raw) (L : List Ent) (roots : List Bm) (m : Bm) : (rW Q L roots m).2.1 ≤ 10 := by
  unfold rW
  split
  · split <;> simp
  · exact chkG_le _ _ _
theorem faultV0 : faultV (0, none) = .agg #[.int .i64 0, .int .i64 (-1)] := rfl
theorem faultV5 : faultV (5, none) = .agg #[.int .i64 5, .int .i64 (-1)] := rfl
theorem reach_all (Q : List Raw) (L : List Ent) (roots : List Bm) (v rv : Value) (A : Nat → Addr) (m : Int) (w : World) (hn : L.length ≤ 1000) (hrn : roots.length ≤ 1000000) (sh : ∀ e, e ∈ L → ShE e) (S : Te w A m) (I : Ixs w v Q L) (hr : MsAt w rv roots) :
    Calls Tryz.prog 14 #[v, rv] w fun e w' => ∃ a c x, e = .returned (.tuple #[.slice a (rX Q L roots).length c, x]) ∧ MsAt w' (.slice a (rX Q L roots).length c) (rX Q L roots) ∧ ErrAt w' A x (rF Q L roots).1 (rF Q L roots).2 ∧ Below w.heap.size w w' := by
  by_cases h : (chkG Q L roots).1 = 0
  · refine (reach_good Q L roots v rv A m w hn hrn sh S I hr h).mono ?_
    rintro e w' ⟨u, rfl, T, hT, hown, hb⟩
    rw [rX_go I h hT] at hown
    have hms := own_ms hown
    obtain ⟨a, c, hu⟩ := own_slN hown
    subst hu
    exact ⟨a, c, _, rfl, hms, by rw [rF_good h]; rfl, hb⟩
  · refine (reach_bad Q L roots v rv A m w hn hrn sh S I hr h).mono ?_
    rintro e w' ⟨T, a, rfl, he, hb⟩
    rw [rX_bad h, rF_bad h]
    exact ⟨_, _, _, rfl, ms_nil0 _, he, hb⟩
end Ve
end Go.Proofs.YtjhiajeeijfkeaaGreatDoor

/-
  What CapsFault of the document's answer says: the first cap that is wrong.
-/
namespace Go.Proofs.YtjhiajeeijfkeaaGreatDoor
open Go.RowKit Go.Maps
namespace Ve

theorem ms_atC {W : World} {b o n c : Nat} {X : List Bm} (h : MsAt W (.slice (some ⟨b, o, none⟩) n c) X) {k : Nat} (hk : k < X.length) : W.cell? ⟨b, o + k * 2, none⟩ = some (.string X[k].1) ∧ W.cell? ⟨b, o + k * 2 + 1, none⟩ = some (.string X[k].2) := by
  obtain ⟨b', o', e, h1⟩ := h.cells hk
  injection e with e
  injection e with e1 e2
  subst e1 e2
  exact h1
set_option maxRecDepth 100000 in
set_option maxHeartbeats 8000000 in
/-- pewholderref2.CapsFault. -/
theorem capsF_any (R : List Bm) (rv : Value) (w : World) (hR : R.length ≤ 1000000) (hs : shortL R) (hr : MsAt w rv R) :
    Calls Tryz.prog 18 #[rv] w fun e w' => e = .returned (faultV (chkP R)) ∧ Below w.heap.size w w' := by
  have HB0 := hid ((Below.refl w.heap.size w).alloc (Nat.le_refl _) (.cells #[.int .i64 0, .int .i64 0] 42))
  have HE0 := hid (heap_new w (.cells #[.int .i64 0, .int .i64 0] 42))
  have HFN := hid (fun W => fine_any W)
  have HMR := hid (fun W (h : Below w.heap.size w W) => hr.below h)
  have HGD := hid (caps_good (caps := R))
  have HBD := hid (fun k (hk : k < R.length) h0 h => caps_bad (caps := R) (k := k) hk h0 h)
  have HSZ := hid hs
  obtain ⟨ra, rc, hrv, -⟩ := id hr
  subst hrv
  have HCE := hid (fun k (h : k < R.length) => capE_at h)
  generalize chkP R = ans at *
  clear hr hs
  go_enter Tryz.func18, Tryz.ntmps18
  go_wp2_with fail
  go_loopw [3] (fun kv wr => ∃ k : Nat, k ≤ R.length ∧ kv = .int .i64 k ∧ Hid (∀ j, j < k → capE R j = 0) ∧ Hid (Below w.heap.size w wr) ∧ Hid (wr.heap[w.heap.size]? = some (.cells #[.int .i64 0, .int .i64 0] 42 (0, 0)))) (fun kv _ => R.length - (intOf kv).toNat)
  case atStart => exact ⟨0, Nat.zero_le _, rfl, hid (fun j h => absurd h (Nat.not_lt_zero _)), HB0, HE0⟩
  case round =>
    obtain ⟨k, hk, rfl, HZ3, HB3, HE3⟩ := hrel
    by_cases hlk : k < R.length
    · have hkI : (k : Int) < (R.length : Int) := by omega
      have hk0 : (0 : Int) ≤ (k : Int) := by omega
      obtain ⟨xb, xo, hxa, -, -⟩ := (HMR.out _ HB3.out).cells hlk
      subst hxa
      have HLK := hid hlk
      obtain ⟨x, hxc, hxs, hxe⟩ : ∃ x : Bm, (∀ W, Below w.heap.size w W → W.cell? ⟨xb, xo + k * 2, none⟩ = some (.string x.1) ∧ W.cell? ⟨xb, xo + k * 2 + 1, none⟩ = some (.string x.2)) ∧ (x.1.size < 999999 ∧ x.2.size < 999999) ∧ capE R k = capW (prevOf R k) x := ⟨_, fun W h => ms_atC (HMR.out W h) hlk, HSZ.out _ (List.getElem_mem hlk), HCE.out k hlk⟩
      have HBK := hid (HBD.out k hlk HZ3.out)
      have HNK := hid (fun h0 => zero_next (E := capE R) HZ3.out (k := k) h0)
      obtain ⟨p, v⟩ := x
      simp only at hxs
      have HXC := hid hxc
      have HXE := hid hxe
      obtain ⟨y0, y1⟩ := HXC.out _ HB3.out
      have HPE := hid (pathError_any p wr (by omega))
      have HVO := hid (fun W => verOf_any v W (by omega))
      clear hxc hxs hxe
      by_cases hp : pathErr p.data.toList = 0
      · rw [hp] at HPE
        have HP0 := hid (show pathErr ((p, v) : Bm).1.data.toList = 0 from hp)
        clear hp
        by_cases hv : v.data.toList = noneL
        · have hq : (v.toList == [110, 111, 110, 101]) = true := by rw [ByteArray.toList_eq]; exact beq_iff_eq.2 hv
          have HV0 := hid (show vb ((p, v) : Bm) = noneL ∨ verErr (vb ((p, v) : Bm)) = 0 from Or.inl hv)
          clear hv HVO
          go_wp2_with fail
          refine HPE.out.mono ?_
          rintro e w1 ⟨rfl, hb⟩
          have HB4 := hid (HB3.out.trans (hb.mono HB3.out.size))
          have HE4 := hid ((hb.block _ (lt_of_blk HE3.out)).trans HE3.out)
          clear hb
          obtain ⟨z0, z1⟩ := HXC.out _ HB4.out
          clear y0 y1
          rcases Nat.eq_zero_or_pos k with h00 | h00
          · have HN2 := hid (HNK.out (by rw [HXE.out, show prevOf R k = none by subst h00; rfl]; exact capW_first HP0.out HV0.out))
            have g3 : decide (0 < k) = false := decide_eq_false (by omega)
            clear h00
            go_wp2_with fail
            go_quiet (fail)
            go_wp2_with fail
            have HBq := hid (below_drawn_of HB4.out nq)
            go_roundw
            case rel => first | exact ⟨k + 1, HLK.out, nr_idx k, HN2, HBq, HE4⟩ | exact ⟨k + 1, HLK.out, nx_idx HLK.out hR, HN2, HBq, HE4⟩
            case measure => first | exact nr_meas HLK.out | exact nx_meas HLK.out hR
          · obtain ⟨j, hj⟩ : ∃ j, k = j + 1 := ⟨k - 1, by omega⟩
            obtain ⟨pr, hpr, hpc⟩ : ∃ pr : Bm, prevOf R k = some pr ∧ w1.cell? ⟨xb, xo + j * 2, none⟩ = some (.string pr.1) := ⟨R[j]'(by omega), by subst hj; unfold prevOf; rw [if_neg (by omega)]; exact List.getElem?_eq_getElem (by omega), (ms_atC (HMR.out _ HB4.out) (k := j) (by omega)).1⟩
            have HPR := hid hpr
            obtain ⟨q, qv⟩ := pr
            have hle := fun X => leq_is p q X
            have g3 : decide (0 < k) = true := decide_eq_true (by omega)
            have g0 : (0 : Int) < (k : Int) := by omega
            have g4 : (k : Int) - 1 = (j : Int) := by omega
            have g5 : (0 : Int) ≤ (j : Int) := by omega
            have g6 : (j : Int) < (R.length : Int) := by omega
            have gw : IntKind.i64.wrap (j : Int) = (j : Int) := by rw [IntKind.wrap_i64]; omega
            obtain ⟨u0, u1⟩ := HXC.out _ HB4.out
            clear hj hpr h00
            cases hz : noLess q p
            · rw [hz] at hle
              have HN2 := hid (HNK.out (by rw [HXE.out, HPR.out]; exact capW_right HP0.out HV0.out hz))
              clear hz
              go_wp2_with fail
              go_quiet (fail)
              go_wp2_with fail
              have HBq := hid (below_drawn_of HB4.out nq)
              go_roundw
              case rel => first | exact ⟨k + 1, HLK.out, nr_idx k, HN2, HBq, HE4⟩ | exact ⟨k + 1, HLK.out, nx_idx HLK.out hR, HN2, HBq, HE4⟩
              case measure => first | exact nr_meas HLK.out | exact nx_meas HLK.out hR
            · rw [hz] at hle
              have hc8 : capE R k = 8 := by rw [HXE.out, HPR.out]; exact capW_order HP0.out HV0.out hz
              have HX := hid (HBK.out (by rw [hc8]; decide))
              rw [hc8] at HX
              clear hz hc8
              have s0 : w1.cell? ⟨w.heap.size, 0, none⟩ = some (.int .i64 0) := by rw [Lib.cell_of_heap HE4.out]; rfl
              have s1 : w1.cell? ⟨w.heap.size, 1, none⟩ = some (.int .i64 0) := by rw [Lib.cell_of_heap HE4.out]; rfl
              have tf := fun o => Lib.frozen_of_heap HE4.out o
              go_wp2_with fail
              go_quiet (fail)
              go_wp2_with fail
              refine bodyPost_ret (v := .agg #[.int .i64 8, .int .i64 (k : Int)]) (by simp [results, Tryz.results18, go_sem, s0, s1]) rfl ⟨by rw [HX.out]; rfl, ?_⟩
              exact put2_below (below_drawn_of HB4.out _) (Nat.le_refl _)
        · have hq : (v.toList == [110, 111, 110, 101]) = false := by rw [ByteArray.toList_eq]; exact beq_eq_false_iff_ne.2 hv
          have HVN := hid hv
          clear hv
          by_cases hve : verErr v.data.toList = 0
          · have HV0 := hid (show vb ((p, v) : Bm) = noneL ∨ verErr (vb ((p, v) : Bm)) = 0 from Or.inr hve)
            have HV9 := hid hve
            clear hve
            go_wp2_with fail
            refine HPE.out.mono ?_
            rintro e w1 ⟨rfl, hb⟩
            have HB4 := hid (HB3.out.trans (hb.mono HB3.out.size))
            have HE4 := hid ((hb.block _ (lt_of_blk HE3.out)).trans HE3.out)
            clear hb
            obtain ⟨z0, z1⟩ := HXC.out _ HB4.out
            clear y0 y1
            go_wp2_with fail
            refine (HVO.out w1).mono ?_
            rintro e w2 ⟨hvo, hb⟩
            rcases hvo with ⟨h, -⟩ | ⟨-, sa, cap, X2, rfl, -, -⟩
            · exact absurd HV9.out h
            have HB5 := hid (HB4.out.trans (hb.mono HB4.out.size))
            have HE5 := hid ((hb.block _ (lt_of_blk HE4.out)).trans HE4.out)
            clear hb
            clear z0 z1
            rcases Nat.eq_zero_or_pos k with h00 | h00
            · have HN2 := hid (HNK.out (by rw [HXE.out, show prevOf R k = none by subst h00; rfl]; exact capW_first HP0.out HV0.out))
              have g3 : decide (0 < k) = false := decide_eq_false (by omega)
              clear h00
              go_wp2_with fail
              go_quiet (fail)
              go_wp2_with fail
              have HBq := hid (below_drawn_of HB5.out nq)
              go_roundw
              case rel => first | exact ⟨k + 1, HLK.out, nr_idx k, HN2, HBq, HE5⟩ | exact ⟨k + 1, HLK.out, nx_idx HLK.out hR, HN2, HBq, HE5⟩
              case measure => first | exact nr_meas HLK.out | exact nx_meas HLK.out hR
            · obtain ⟨j, hj⟩ : ∃ j, k = j + 1 := ⟨k - 1, by omega⟩
              obtain ⟨pr, hpr, hpc⟩ : ∃ pr : Bm, prevOf R k = some pr ∧ w2.cell? ⟨xb, xo + j * 2, none⟩ = some (.string pr.1) := ⟨R[j]'(by omega), by subst hj; unfold prevOf; rw [if_neg (by omega)]; exact List.getElem?_eq_getElem (by omega), (ms_atC (HMR.out _ HB5.out) (k := j) (by omega)).1⟩
              have HPR := hid hpr
              obtain ⟨q, qv⟩ := pr
              have hle := fun X => leq_is p q X
              have g3 : decide (0 < k) = true := decide_eq_true (by omega)
              have g0 : (0 : Int) < (k : Int) := by omega
              have g4 : (k : Int) - 1 = (j : Int) := by omega
              have g5 : (0 : Int) ≤ (j : Int) := by omega
              have g6 : (j : Int) < (R.length : Int) := by omega
              have gw : IntKind.i64.wrap (j : Int) = (j : Int) := by rw [IntKind.wrap_i64]; omega
              obtain ⟨u0, u1⟩ := HXC.out _ HB5.out
              clear hj hpr h00
              cases hz : noLess q p
              · rw [hz] at hle
                have HN2 := hid (HNK.out (by rw [HXE.out, HPR.out]; exact capW_right HP0.out HV0.out hz))
                clear hz
                go_wp2_with fail
                go_quiet (fail)
                go_wp2_with fail
                have HBq := hid (below_drawn_of HB5.out nq)
                go_roundw
                case rel => first | exact ⟨k + 1, HLK.out, nr_idx k, HN2, HBq, HE5⟩ | exact ⟨k + 1, HLK.out, nx_idx HLK.out hR, HN2, HBq, HE5⟩
                case measure => first | exact nr_meas HLK.out | exact nx_meas HLK.out hR
              · rw [hz] at hle
                have hc8 : capE R k = 8 := by rw [HXE.out, HPR.out]; exact capW_order HP0.out HV0.out hz
                have HX := hid (HBK.out (by rw [hc8]; decide))
                rw [hc8] at HX
                clear hz hc8
                have s0 : w2.cell? ⟨w.heap.size, 0, none⟩ = some (.int .i64 0) := by rw [Lib.cell_of_heap HE5.out]; rfl
                have s1 : w2.cell? ⟨w.heap.size, 1, none⟩ = some (.int .i64 0) := by rw [Lib.cell_of_heap HE5.out]; rfl
                have tf := fun o => Lib.frozen_of_heap HE5.out o
                go_wp2_with fail
                go_quiet (fail)
                go_wp2_with fail
                refine bodyPost_ret (v := .agg #[.int .i64 8, .int .i64 (k : Int)]) (by simp [results, Tryz.results18, go_sem, s0, s1]) rfl ⟨by rw [HX.out]; rfl, ?_⟩
                exact put2_below (below_drawn_of HB5.out _) (Nat.le_refl _)
          · have hc9 : capE R k = verErr v.data.toList := by rw [HXE.out]; exact capW_ver HP0.out HVN.out hve
            have HX := hid (HBK.out (by rw [hc9]; exact hve))
            rw [hc9] at HX
            have HV9 := hid hve
            have hpos : (0 : Int) < (verErr v.data.toList : Int) := by omega
            have hnz : ((verErr v.data.toList : Int) == 0) = false := by simp; omega
            clear hve hc9
            generalize verErr v.data.toList = ve at *
            go_wp2_with fail
            refine HPE.out.mono ?_
            rintro e w1 ⟨rfl, hb⟩
            have HB4 := hid (HB3.out.trans (hb.mono HB3.out.size))
            have HE4 := hid ((hb.block _ (lt_of_blk HE3.out)).trans HE3.out)
            clear hb
            obtain ⟨z0, z1⟩ := HXC.out _ HB4.out
            clear y0 y1
            go_wp2_with fail
            refine (HVO.out w1).mono ?_
            rintro e w2 ⟨hvo, hb⟩
            rcases hvo with ⟨-, rfl⟩ | ⟨h, -⟩
            rotate_left
            · exact absurd h HV9.out
            have HB5 := hid (HB4.out.trans (hb.mono HB4.out.size))
            have HE5 := hid ((hb.block _ (lt_of_blk HE4.out)).trans HE4.out)
            clear hb
            clear z0 z1
            have s0 : w2.cell? ⟨w.heap.size, 0, none⟩ = some (.int .i64 0) := by rw [Lib.cell_of_heap HE5.out]; rfl
            have s1 : w2.cell? ⟨w.heap.size, 1, none⟩ = some (.int .i64 0) := by rw [Lib.cell_of_heap HE5.out]; rfl
            have tf := fun o => Lib.frozen_of_heap HE5.out o
            go_wp2_with fail
            go_quiet (fail)
            go_wp2_with fail
            refine bodyPost_ret (v := .agg #[.int .i64 (ve : Nat), .int .i64 (k : Int)]) (by simp [results, Tryz.results18, go_sem, s0, s1]) rfl ⟨by rw [HX.out]; rfl, ?_⟩
            exact put2_below (below_drawn_of HB5.out _) (Nat.le_refl _)
      · have hc9 : capE R k = pathErr p.data.toList := by rw [HXE.out]; exact capW_path hp
        have HX := hid (HBK.out (by rw [hc9]; exact hp))
        rw [hc9] at HX
        have hpos : (0 : Int) < (pathErr p.data.toList : Int) := by omega
        have hnz : ((pathErr p.data.toList : Int) == 0) = false := by simp; omega
        clear hp hc9 HVO
        generalize pathErr p.data.toList = pe at *
        go_wp2_with fail
        refine HPE.out.mono ?_
        rintro e w1 ⟨rfl, hb⟩
        have HB4 := hid (HB3.out.trans (hb.mono HB3.out.size))
        have HE4 := hid ((hb.block _ (lt_of_blk HE3.out)).trans HE3.out)
        clear hb
        clear y0 y1
        have s0 : w1.cell? ⟨w.heap.size, 0, none⟩ = some (.int .i64 0) := by rw [Lib.cell_of_heap HE4.out]; rfl
        have s1 : w1.cell? ⟨w.heap.size, 1, none⟩ = some (.int .i64 0) := by rw [Lib.cell_of_heap HE4.out]; rfl
        have tf := fun o => Lib.frozen_of_heap HE4.out o
        go_wp2_with fail
        go_quiet (fail)
        go_wp2_with fail
        refine bodyPost_ret (v := .agg #[.int .i64 (pe : Nat), .int .i64 (k : Int)]) (by simp [results, Tryz.results18, go_sem, s0, s1]) rfl ⟨by rw [HX.out]; rfl, ?_⟩
        exact put2_below (below_drawn_of HB4.out _) (Nat.le_refl _)
    · have hkI : ¬ (k : Int) < (R.length : Int) := by omega
      have HX := hid (HGD.out (fun j h => HZ3.out j (by omega)))
      clear hlk
      go_wp2_with fail
      refine (HFN.out _).mono ?_
      rintro e w1 ⟨rfl, hb⟩
      have HB4 := hid (HB3.out.trans (hb.mono HB3.out.size))
      have HE4 := hid ((hb.block _ (lt_of_blk HE3.out)).trans HE3.out)
      clear hb
      have s0 : w1.cell? ⟨w.heap.size, 0, none⟩ = some (.int .i64 0) := by rw [Lib.cell_of_heap HE4.out]; rfl
      have s1 : w1.cell? ⟨w.heap.size, 1, none⟩ = some (.int .i64 0) := by rw [Lib.cell_of_heap HE4.out]; rfl
      have tf := fun o => Lib.frozen_of_heap HE4.out o
      go_wp2_with fail
      refine bodyPost_ret (v := .agg #[.int .i64 0, .int .i64 (-1)]) (by simp [results, Tryz.results18, go_sem, s0, s1]) rfl ⟨by rw [HX.out]; rfl, ?_⟩
      exact put2_below HB4.out (Nat.le_refl _)
end Ve
end Go.Proofs.YtjhiajeeijfkeaaGreatDoor

/-
  BadOf of the document's answer: plain words, and where the index or a cap is wrong.
-/
namespace Go.Proofs.YtjhiajeeijfkeaaGreatDoor
open Go.RowKit Go.Maps
namespace Ve

/-- Some of the first n. -/
def anyN (f : Nat → Bool) : Nat → Bool
  | 0 => false
  | n + 1 => anyN f n || f n
theorem anyN_iff {f : Nat → Bool} : ∀ n, anyN f n = true ↔ ∃ j, j < n ∧ f j = true
  | 0 => by simp [anyN]
  | n + 1 => by
    simp only [anyN, Bool.or_eq_true, anyN_iff n]
    constructor
    · rintro (⟨j, h1, h2⟩ | h)
      · exact ⟨j, by omega, h2⟩
      · exact ⟨n, by omega, h⟩
    · rintro ⟨j, h1, h2⟩
      rcases Nat.lt_or_ge j n with h | h
      · exact Or.inl ⟨j, h, h2⟩
      · have : j = n := by omega
        subst this; exact Or.inr h2
/-- Is an entry marked and above a cap? -/
def hitN (O : List Bool) (U caps : List Bm) (j : Nat) : Bool := match U[j]?, O[j]? with
  | some u, some o => o && capB caps u
  | _, _ => false
theorem hitN_at {O : List Bool} {U caps : List Bm} {j : Nat} (h : j < U.length) (h' : j < O.length) : hitN O U caps j = (O[j] && capB caps U[j]) := by
  unfold hitN
  rw [List.getElem?_eq_getElem h, List.getElem?_eq_getElem h']
theorem rch_uniB {w : World} {v : Value} {Q : List Raw} {L : List Ent} {roots : List Bm} (I : Ixs w v Q L) (h : (chkG Q L roots).1 = 0) {m : Bm} (hm : Rch (reqQ Q L) roots m) : m ∈ univ L := by
  have r := rgt_of I h
  induction hm with
  | root hr => exact r.r _ hr
  | step _ hr ih => exact chk_reqs0 I r.c _ ih _ hr
theorem hit_bd {w : World} {v : Value} {Q : List Raw} {L : List Ent} {caps : List Bm} {O : List Bool} {i : Nat} (I : Ixs w v Q L) (k0 : (chk Q L).1 = 0) (hi : i < (univ L).length) (hl : O.length = (univ L).length)
    (hO : ∀ j (h : j < (univ L).length) (h' : j < O.length), O[j] = true ↔ Rch (reqQ Q L) [(univ L)[i]] (univ L)[j]) (h' : i < (bdL Q L caps).length) : anyN (hitN O (univ L) caps) (univ L).length = (bdL Q L caps)[i] := by
  refine Bool.eq_iff_iff.2 ((anyN_iff _).trans (Iff.trans ?_ (bdL_at hi h').symm))
  constructor
  · rintro ⟨j, h1, h2⟩
    rw [hitN_at h1 (by omega), Bool.and_eq_true] at h2
    exact ⟨_, (hO j h1 (by omega)).1 h2.1, h2.2⟩
  · rintro ⟨k, hk, hc⟩
    have hG : (chkG Q L [(univ L)[i]]).1 = 0 := chkG_in I k0 fun x hx => by
      rw [List.mem_singleton.1 hx]; exact List.getElem_mem hi
    obtain ⟨j, hj, rfl⟩ := List.getElem_of_mem (rch_uniB I hG hk)
    exact ⟨j, hj, by rw [hitN_at hj (by omega), hc, (hO j hj (by omega)).2 hk]; rfl⟩
/-- Marks lie in a slice, perhaps with room behind them. -/
def BvAt (W : World) (v : Value) (O : List Bool) : Prop := ∃ a c, v = .slice a O.length c ∧ (O ≠ [] → ∃ b o, a = some ⟨b, o, none⟩ ∧ ∀ j (h : j < O.length), W.cell? ⟨b, o + j, none⟩ = some (.bool O[j]))
theorem BvAt.below {W W' : World} {v : Value} {O : List Bool} (h : BvAt W v O) (hb : Below W.heap.size W W') : BvAt W' v O := by
  obtain ⟨a, c, rfl, h1⟩ := h
  refine ⟨a, c, rfl, fun hO => ?_⟩
  obtain ⟨b, o, rfl, h2⟩ := h1 hO
  exact ⟨b, o, rfl, fun j hj => cell_below hb (h2 j hj)⟩
theorem BvAt.cells {W : World} {a : Option Addr} {n c : Nat} {O : List Bool} (h : BvAt W (.slice a n c) O) {j : Nat} (hj : j < O.length) : ∃ b o, a = some ⟨b, o, none⟩ ∧ W.cell? ⟨b, o + j, none⟩ = some (.bool O[j]) := by
  obtain ⟨a', c', e, h1⟩ := h
  injection e with e1 e2 e3
  subst e1
  obtain ⟨b, o, rfl, h2⟩ := h1 (fun e => by rw [e] at hj; exact absurd hj (Nat.not_lt_zero _))
  exact ⟨b, o, rfl, h2 j hj⟩
theorem BvAt.at {W : World} {b o n c : Nat} {O : List Bool} (h : BvAt W (.slice (some ⟨b, o, none⟩) n c) O) {j : Nat} (hj : j < O.length) : W.cell? ⟨b, o + j, none⟩ = some (.bool O[j]) := by
  obtain ⟨b', o', e, h1⟩ := h.cells hj
  injection e with e
  injection e with e1 e2
  subst e1 e2
  exact h1
theorem own_bv {W : World} {B : Nat} {v : Value} {O : List Bool} (h : W.ownsRow B 4 1 v O.length (O.map Value.bool)) : BvAt W v O := by
  obtain ⟨_, ⟨hv, hn0⟩ | ⟨g, cap, cur, hv, hg, hblk, hcap, hcm, hcs, hct⟩⟩ := h
  · exact ⟨none, 0, by rw [hv, hn0], fun hP => absurd (List.length_eq_zero_iff.1 hn0) hP⟩
  · refine ⟨_, cap, hv, fun _ => ⟨g, 0, rfl, fun j hj => ?_⟩⟩
    have h1 : (O.map Value.bool)[j]? = some (.bool O[j]) := by simp [hj]
    rw [← hct, List.getElem?_take, if_pos (by omega)] at h1
    simp only [World.cell?, hblk]
    rw [Nat.zero_add, ← h1]; simp
theorem rel_appK {B k : Nat} {w wr w2 w3 : World} {e : TypeId} {v : Value} {n : Nat} {xs : List Value} {o : Obj} (hB : B ≤ wr.heap.size) (hb : Below B w wr) (hown : wr.ownsRow B e k v n xs) (hb2 : Below wr.heap.size wr w2)
    (hg : (w2.alloc o).grownBy w3 v.ownBlock) : Below B w w3 := by
  have h2 : Below B w w2 := hb.trans (hb2.mono hB)
  have h3 : Below B w (w2.alloc o) := h2.alloc (Nat.le_trans hB hb2.size) o
  exact h3.grown hg (by simp; exact Nat.le_succ_of_le (Nat.le_trans hB hb2.size)) (fun k hk => (hown.lt k hk).1)
set_option maxRecDepth 100000 in
set_option maxHeartbeats 4000000 in
theorem bdo_bad1 (Q : List Raw) (L : List Ent) (caps : List Bm) (v cv : Value) (w : World) (hn : L.length ≤ 1000) (sh : ∀ e, e ∈ L → ShE e) (I : Ixs w v Q L) (hc : MsAt w cv caps) (h0 : (chk Q L).1 ≠ 0) :
    Calls Tryz.prog 20 #[v, cv] w fun e w' => e = .returned (.tuple #[.slice none 0 0, faultV (chk Q L)]) ∧ Below w.heap.size w w' := by
  have HB0 := hid ((Below.refl w.heap.size w).alloc (Nat.le_refl _) (.cells #[.int .i64 0, .int .i64 0] 42))
  have HE0 := hid (heap_new w (.cells #[.int .i64 0, .int .i64 0] 42))
  have HIF := hid (iFault_any Q L v _ hn sh (I.below HB0.out))
  obtain ⟨a, c, hv1, -⟩ := id I.es
  subst hv1
  obtain ⟨ra, rc, hrv, -⟩ := id hc
  subst hrv
  obtain ⟨cc, oo, hco⟩ : ∃ cc oo, chk Q L = (cc, oo) := ⟨_, _, rfl⟩
  rw [hco] at HIF h0 ⊢
  unfold faultV at HIF ⊢
  simp only at HIF h0 ⊢
  generalize atOf oo = ao at *
  have hpos : (0 : Int) < (cc : Int) := by omega
  have hnz : ((cc : Int) == 0) = false := by simp; omega
  have hnz2 : ¬ (cc : Int) = 0 := by omega
  clear I hc sh h0 hco
  go_enter Tryz.func20, Tryz.ntmps20
  go_wp2_with fail
  refine HIF.out.mono ?_
  rintro e w1 ⟨rfl, hb⟩
  have HB1 := hid (HB0.out.trans (hb.mono HB0.out.size))
  have HE1 := hid ((hb.block _ (lt_of_blk HE0.out)).trans HE0.out)
  clear hb
  have HB2 := hid (HB1.out.alloc HB1.out.size (.cells #[.int .i64 (cc : Int), .int .i64 ao] 42))
  have HE2 := hid (heap_old w1 (.cells #[.int .i64 (cc : Int), .int .i64 ao] 42) HE1.out)
  have HF2 := hid (heap_new w1 (.cells #[.int .i64 (cc : Int), .int .i64 ao] 42))
  have HLT := hid (lt_of_blk HE1.out)
  have hne : ¬ w1.heap.size = w.heap.size := Nat.ne_of_gt (lt_of_blk HE1.out)
  have hne2 : ¬ w.heap.size = w1.heap.size := Nat.ne_of_lt (lt_of_blk HE1.out)
  go_wp2_with fail
  generalize w1.alloc (.cells #[.int .i64 (cc : Int), .int .i64 ao] 42) = w2 at *
  have HBx := HB2
  have HEx := HE2
  have HFx := HF2
  obtain ⟨s0, s1, tf⟩ := box_two HEx.out
  obtain ⟨f0, f1, _⟩ := box_two HFx.out
  go_region_with fail
  all_goals
    go_wp2_with fail
    refine bodyPost_ret (v := .tuple #[.slice none 0 0, .agg #[.int .i64 (cc : Int), .int .i64 ao]]) (by simp [results, Tryz.results20, go_sem, s0, s1]) rfl ⟨rfl, ?_⟩
    exact put2_below (below_drawn_of HBx.out 1) (Nat.le_refl _)
set_option maxRecDepth 100000 in
set_option maxHeartbeats 4000000 in
theorem bdo_bad2 (Q : List Raw) (L : List Ent) (caps : List Bm) (v cv : Value) (w : World) (hn : L.length ≤ 1000) (hcn : caps.length ≤ 1000000) (hs : shortL caps) (sh : ∀ e, e ∈ L → ShE e) (I : Ixs w v Q L) (hc : MsAt w cv caps) (h0 : (chk Q L).1 = 0) (h1 : (chkP caps).1 ≠ 0) :
    Calls Tryz.prog 20 #[v, cv] w fun e w' => e = .returned (.tuple #[.slice none 0 0, faultV (chkP caps)]) ∧ Below w.heap.size w w' := by
  have HB0 := hid ((Below.refl w.heap.size w).alloc (Nat.le_refl _) (.cells #[.int .i64 0, .int .i64 0] 42))
  have HE0 := hid (heap_new w (.cells #[.int .i64 0, .int .i64 0] 42))
  have HIF := hid (iFault_any Q L v _ hn sh (I.below HB0.out))
  have HRF := hid (fun W (h : Below w.heap.size w W) => capsF_any caps cv W hcn hs (hc.below h))
  obtain ⟨a, c, hv1, -⟩ := id I.es
  subst hv1
  obtain ⟨ra, rc, hrv, -⟩ := id hc
  subst hrv
  obtain ⟨oo0, hco⟩ : ∃ oo, chk Q L = (0, oo) := ⟨(chk Q L).2, Prod.ext h0 rfl⟩
  rw [hco] at HIF
  obtain ⟨rc0, oo1, hcp⟩ : ∃ cc oo, chkP caps = (cc, oo) := ⟨_, _, rfl⟩
  rw [hcp] at HRF h1 ⊢
  unfold faultV at HIF HRF ⊢
  simp only at HIF HRF h1 ⊢
  generalize atOf oo0 = ao0 at *
  generalize atOf oo1 = ar at *
  have hpos : (0 : Int) < (rc0 : Int) := by omega
  have hnz : ((rc0 : Int) == 0) = false := by simp; omega
  have hnz2 : ¬ (rc0 : Int) = 0 := by omega
  clear I hc hs sh h0 hco h1 hcp
  go_enter Tryz.func20, Tryz.ntmps20
  go_wp2_with fail
  refine HIF.out.mono ?_
  rintro e w1 ⟨rfl, hb⟩
  have HB1 := hid (HB0.out.trans (hb.mono HB0.out.size))
  have HE1 := hid ((hb.block _ (lt_of_blk HE0.out)).trans HE0.out)
  clear hb
  have HB2 := hid (HB1.out.alloc HB1.out.size (.cells #[.int .i64 0, .int .i64 ao0] 42))
  have HE2 := hid (heap_old w1 (.cells #[.int .i64 0, .int .i64 ao0] 42) HE1.out)
  have HF2 := hid (heap_new w1 (.cells #[.int .i64 0, .int .i64 ao0] 42))
  have HLT := hid (lt_of_blk HE1.out)
  have hne : ¬ w1.heap.size = w.heap.size := Nat.ne_of_gt (lt_of_blk HE1.out)
  have hne2 : ¬ w.heap.size = w1.heap.size := Nat.ne_of_lt (lt_of_blk HE1.out)
  go_wp2_with fail
  generalize hg2 : w1.alloc (.cells #[.int .i64 0, .int .i64 ao0] 42) = w2 at *
  clear hg2
  refine (HRF.out _ HB2.out).mono ?_
  rintro e w3 ⟨rfl, hb⟩
  have HB3a := hid (HB2.out.trans (hb.mono HB2.out.size))
  have HE3a := hid ((hb.block _ (lt_of_blk HE2.out)).trans HE2.out)
  have HF3a := hid ((hb.block _ (lt_of_blk HF2.out)).trans HF2.out)
  clear hb
  have HB3 := hid (put2_below (x := .int .i64 (rc0 : Int)) (y := .int .i64 ar) HB3a.out (Nat.le_of_lt HLT.out))
  have HE3 := hid (keep_set (fb := w1.heap.size) (o := 1) (x := .int .i64 ar) (keep_set (fb := w1.heap.size) (o := 0) (x := .int .i64 (rc0 : Int)) HE3a.out hne2) hne2)
  have HF3 := hid (set_block (o := 1) (x := .int .i64 ar) (set_block (o := 0) (x := .int .i64 (rc0 : Int)) HF3a.out))
  obtain ⟨g0, g1, gf⟩ := box_two HF3a.out
  go_wp2_with fail
  generalize hg3 : (w3.setCell ⟨w1.heap.size, 0, none⟩ (.int .i64 (rc0 : Int))).setCell ⟨w1.heap.size, 1, none⟩ (.int .i64 ar) = w3b at *
  clear hg3 g0 g1 gf
  have HF3 : Hid (w3b.heap[w1.heap.size]? = some (.cells #[.int .i64 (rc0 : Int), .int .i64 ar] 42 (0, 0))) := hid HF3.out
  have HBx := HB3
  have HEx := HE3
  have HFx := HF3
  obtain ⟨s0, s1, tf⟩ := box_two HEx.out
  obtain ⟨f0, f1, _⟩ := box_two HFx.out
  go_region_with fail
  all_goals
    go_wp2_with fail
    refine bodyPost_ret (v := .tuple #[.slice none 0 0, .agg #[.int .i64 (rc0 : Int), .int .i64 ar]]) (by simp [results, Tryz.results20, go_sem, s0, s1]) rfl ⟨rfl, ?_⟩
    exact put2_below (below_drawn_of HBx.out 1) (Nat.le_refl _)
end Ve
end Go.Proofs.YtjhiajeeijfkeaaGreatDoor

/-
  BadOf of the document's answer, where index and caps are right.
-/
namespace Go.Proofs.YtjhiajeeijfkeaaGreatDoor
open Go.RowKit Go.Maps
namespace Ve

/-- A slice of one mark. -/
theorem one_cell {W : World} {T : TypeId} {x : Value} : ∀ t u, ([x] : List Value)[t]? = some u → (W.alloc (.cells #[x] T)).cell? ((⟨W.heap.size, 0, none⟩ : Addr).add t) = some u := by
  intro t u ht
  match t, ht with
  | 0, ht => simp at ht; subst ht; simp [Addr.add]
  | t + 1, ht => simp at ht
set_option maxRecDepth 100000 in
set_option maxHeartbeats 8000000 in
theorem bdo_good (Q : List Raw) (L : List Ent) (caps : List Bm) (v cv : Value) (w : World) (hn : L.length ≤ 1000) (hcn : caps.length ≤ 1000000) (hs : shortL caps) (sh : ∀ e, e ∈ L → ShE e) (I : Ixs w v Q L) (hc : MsAt w cv caps) (h0 : (chk Q L).1 = 0) (h1 : (chkP caps).1 = 0) :
    Calls Tryz.prog 20 #[v, cv] w fun e w' => ∃ u, e = .returned (.tuple #[u, .agg #[.int .i64 0, .int .i64 (-1)]]) ∧ BvAt w' u (bdL Q L caps) ∧ Below w.heap.size w w' := by
  have HB0 := hid ((Below.refl w.heap.size w).alloc (Nat.le_refl _) (.cells #[.int .i64 0, .int .i64 0] 42))
  have HE0 := hid (heap_new w (.cells #[.int .i64 0, .int .i64 0] 42))
  have HIF := hid (iFault_any Q L v _ hn sh (I.below HB0.out))
  have HRF := hid (fun W (h : Below w.heap.size w W) => capsF_any caps cv W hcn hs (hc.below h))
  have HUL := hid (show (univ L).length = Q.length by rw [I.ln]; simp [univ])
  have HBL := hid (show (bdL Q L caps).length = Q.length by rw [bdL_len, I.ln])
  have hqn : Q.length ≤ 1000 := by rw [I.ln]; exact hn
  have HMK := hid (fun i (hi : i < (univ L).length) rv W (h : Below w.heap.size w W) (hr : MsAt W rv [(univ L)[i]]) => marks_any Q L [(univ L)[i]] v rv W hn (by simp) sh (I.below h) hr (chkG_in I h0 fun x hx => by rw [List.mem_singleton.1 hx]; exact List.getElem_mem hi))
  have HHB := hid (fun i (hi : i < (univ L).length) O hl hO h' => hit_bd (caps := caps) (O := O) (i := i) I h0 hi hl hO h')
  have HES := hid (fun W (h : Below w.heap.size w W) => (I.below h).es)
  have HCS := hid (fun W (h : Below w.heap.size w W) => hc.below h)
  have HCZ := hid hs
  have HUZ := hid (fun i (hi : i < (univ L).length) => show (univ L)[i].2.size < 999999 by
    have hi' : i < L.length := by rw [univ_len] at hi; exact hi
    have := (sh L[i] (List.getElem_mem hi')).v
    simpa [univ] using this)
  have HUM := hid (fun i (hi : i < Q.length) (hi' : i < (univ L).length) => show Q[i].1 = (univ L)[i] by
    have := (I.ok i hi (by rw [← I.ln]; exact hi)).m
    simp only [univ, List.getElem_map]
    exact this)
  obtain ⟨i0, hi0, hz0, hz1, hz2⟩ := info_parts infoBool
  obtain ⟨a, c, hv1, -⟩ := id I.es
  subst hv1
  obtain ⟨ra, rc, hrv, -⟩ := id hc
  subst hrv
  obtain ⟨oo0, hco⟩ : ∃ oo, chk Q L = (0, oo) := ⟨(chk Q L).2, Prod.ext h0 rfl⟩
  rw [hco] at HIF
  obtain ⟨oo1, hcp⟩ : ∃ oo, chkP caps = (0, oo) := ⟨(chkP caps).2, Prod.ext h1 rfl⟩
  rw [hcp] at HRF
  unfold faultV at HIF HRF
  simp only at HIF HRF
  generalize atOf oo0 = ao0 at *
  generalize atOf oo1 = ar at *
  clear I hc hs sh h0 hco h1 hcp
  generalize bdL Q L caps = BL at *
  go_enter Tryz.func20, Tryz.ntmps20
  go_wp2_with fail
  refine HIF.out.mono ?_
  rintro e w1 ⟨rfl, hb⟩
  have HB1 := hid (HB0.out.trans (hb.mono HB0.out.size))
  have HE1 := hid ((hb.block _ (lt_of_blk HE0.out)).trans HE0.out)
  clear hb
  have HB2 := hid (HB1.out.alloc HB1.out.size (.cells #[.int .i64 0, .int .i64 ao0] 42))
  have HE2 := hid (heap_old w1 (.cells #[.int .i64 0, .int .i64 ao0] 42) HE1.out)
  have HF2 := hid (heap_new w1 (.cells #[.int .i64 0, .int .i64 ao0] 42))
  have HLT := hid (lt_of_blk HE1.out)
  have hne : ¬ w1.heap.size = w.heap.size := Nat.ne_of_gt (lt_of_blk HE1.out)
  have hne2 : ¬ w.heap.size = w1.heap.size := Nat.ne_of_lt (lt_of_blk HE1.out)
  go_wp2_with fail
  generalize hg2 : w1.alloc (.cells #[.int .i64 0, .int .i64 ao0] 42) = w2 at *
  clear hg2
  refine (HRF.out _ HB2.out).mono ?_
  rintro e w3 ⟨rfl, hb⟩
  have HB3a := hid (HB2.out.trans (hb.mono HB2.out.size))
  have HE3a := hid ((hb.block _ (lt_of_blk HE2.out)).trans HE2.out)
  have HF3a := hid ((hb.block _ (lt_of_blk HF2.out)).trans HF2.out)
  clear hb
  have HB3 := hid (put2_below (x := .int .i64 0) (y := .int .i64 ar) HB3a.out (Nat.le_of_lt HLT.out))
  have HE3 := hid (keep_set (fb := w1.heap.size) (o := 1) (x := .int .i64 ar) (keep_set (fb := w1.heap.size) (o := 0) (x := .int .i64 0) HE3a.out hne2) hne2)
  have HF3 := hid (set_block (o := 1) (x := .int .i64 ar) (set_block (o := 0) (x := .int .i64 0) HF3a.out))
  obtain ⟨g0, g1, gf⟩ := box_two HF3a.out
  go_wp2_with fail
  generalize hg3 : (w3.setCell ⟨w1.heap.size, 0, none⟩ (.int .i64 0)).setCell ⟨w1.heap.size, 1, none⟩ (.int .i64 ar) = w5 at *
  clear hg3 g0 g1 gf HIF HRF HE3a HF3a HB3a HE2 HF2 HB2 HE1 HB1 HE0 HB0
  have HBW := hid (fun W (h : Below w5.heap.size w5 W) => HB3.out.trans (h.mono HB3.out.size))
  have hw5 := HB3.out.size
  go_loopw [7, 8] (fun ov iv wr => ∃ i : Nat, i ≤ Q.length ∧ iv = .int .i64 i ∧ Hid (wr.ownsRow w5.heap.size 4 1 ov i ((BL.take i).map Value.bool)) ∧ Hid (Below w5.heap.size w5 wr)) (fun _ iv _ => Q.length - (intOf iv).toNat)
  case atStart => exact ⟨0, Nat.zero_le _, rfl, hid (by simp only [List.take_zero, List.map_nil]; exact World.ownsRow_nil _ _ _ _), hid (Below.refl _ _)⟩
  case round =>
    obtain ⟨i, hi, rfl, HOW, HBr⟩ := hrel
    by_cases hlt : i < Q.length
    · have hiI : (i : Int) < (Q.length : Int) := by omega
      have hii : (0 : Int) ≤ (i : Int) := by omega
      have HLI := hid hlt
      have hiU : i < (univ L).length := by rw [HUL.out]; exact hlt
      have hiB : i < BL.length := by rw [HBL.out]; exact hlt
      have hes := HES.out _ (HBW.out _ HBr.out)
      obtain ⟨b, o, hab, -⟩ := es_cells hes hlt
      subst hab
      obtain ⟨-, x0, x1, -, -, -⟩ := es_all hes hlt
      rw [HUM.out i hlt hiU] at x0 x1
      have HMR := hid (HMK.out i hiU)
      have HHR := hid (fun O hl hO => HHB.out i hiU O hl hO hiB)
      have HBT := hid (show (BL.take (i + 1)).map Value.bool = (BL.take i).map Value.bool ++ [.bool BL[i]] by rw [List.take_succ_eq_append_getElem hiB, List.map_append]; rfl)
      generalize (univ L)[i] = um at *
      obtain ⟨up, uq⟩ := um
      simp only at x0 x1
      obtain ⟨bi, hbi⟩ : ∃ b, BL[i] = b := ⟨_, rfl⟩
      rw [hbi] at HHR HBT
      clear hes hlt hbi
      have HBa := hid (HBr.out.alloc HBr.out.size (.cells #[.string up, .string uq] 36))
      have HOa := hid (HOW.out.alloc (.cells #[.string up, .string uq] 36))
      have HMa := hid (ms_one1 (x := (up, uq)) (heap_new wr (.cells #[.string up, .string uq] 36)))
      go_wp2_with fail
      generalize hA : wr.alloc (.cells #[.string up, .string uq] 36) = wA at *
      clear hA x0 x1
      refine (HMR.out _ wA (HBW.out _ HBa.out) HMa.out).mono ?_
      rintro e w6 ⟨O, rfl, hM, hO⟩
      have HB6 := hid (HBa.out.trans (hM.bl.mono HBa.out.size))
      have HO6 := hid (owns_below HOa.out hM.bl)
      have HH6 := hid hM.hp
      have HOL := hid hM.ok.ln
      have HAN := hid (HHR.out O hM.ok.ln hO)
      clear hM hO HMR HMa HBa HOa HBr HOW HHR
      generalize wA.heap.size = gM at *
      go_wp2_with fail
      go_loopw [10, 11] (fun bv kv wr => ∃ k : Nat, k ≤ Q.length ∧ kv = .int .i64 k ∧ bv = .bool (anyN (hitN O (univ L) caps) k) ∧ Hid (Below w6.heap.size w6 wr)) (fun _ kv _ => Q.length - (intOf kv).toNat)
      case atStart => exact ⟨0, Nat.zero_le _, rfl, rfl, hid (Below.refl _ _)⟩
      case round =>
        obtain ⟨k, hk, rfl, rfl, HBk⟩ := hrel
        have HBk5 := hid (HB6.out.trans (HBk.out.mono HB6.out.size))
        by_cases hlk : k < Q.length
        · have hkI : (k : Int) < (Q.length : Int) := by omega
          have hki : (0 : Int) ≤ (k : Int) := by omega
          have HLK := hid hlk
          have hkU : k < (univ L).length := by rw [HUL.out]; exact hlk
          have hkO : k < O.length := by rw [HOL.out]; exact hkU
          have HEK := hid (fun W (h : Below w5.heap.size w5 W) => show W.cell? ⟨b, o + k * 5, none⟩ = some (.string (Q[k]'hlk).1.1) ∧ W.cell? ⟨b, o + k * 5 + 1, none⟩ = some (.string (Q[k]'hlk).1.2) from ⟨(es_all (HES.out _ (HBW.out _ h)) hlk).2.1, (es_all (HES.out _ (HBW.out _ h)) hlk).2.2.1⟩)
          have m0 := cell_below HBk.out (bwc_at HH6.out hkO)
          have HNX := hid (show anyN (hitN O (univ L) caps) (k + 1) = (anyN (hitN O (univ L) caps) k || (O[k] && capB caps (univ L)[k])) by rw [← hitN_at hkU hkO]; rfl)
          have hkz := HUZ.out k hkU
          have HEQ := HUM.out k hlk hkU
          rw [HEQ] at HEK
          clear HEQ
          generalize (univ L)[k] = um at *
          obtain ⟨kp, kq⟩ := um
          simp only at hkz HEK
          obtain ⟨ok, hok⟩ : ∃ b, O[k] = b := ⟨_, rfl⟩
          rw [hok] at m0 HNX
          generalize anyN (hitN O (univ L) caps) k = cur at *
          obtain ⟨x0, x1⟩ := HEK.out _ HBk5.out
          have HFP := hid (fp_is caps kp _ wr hcn (HCS.out _ (HBW.out _ HBk5.out)))
          clear hlk hok
          rcases fpOf_kind caps kp with ⟨e1, h2⟩ | ⟨ka, hka, e1, h2, h3⟩
          · have hcb := capB_none (m := (kp, kq)) fun c hc => of_decide_eq_false (h2 c hc)
            rw [hcb, Bool.and_false, Bool.or_false] at HNX
            rw [e1] at HFP
            clear e1 h2 hcb
            go_wp2_with fail
            refine HFP.out.mono ?_
            rintro e w7 ⟨rfl, rfl⟩
            cases ok
            all_goals
              go_wp2_with fail
              go_roundw
              case rel => first | exact ⟨k + 1, HLK.out, nr_idx k, by rw [HNX.out], HBk⟩ | exact ⟨k + 1, HLK.out, nx_idx HLK.out (by omega), by rw [HNX.out], HBk⟩
              case measure => first | exact nr_meas HLK.out | exact nx_meas HLK.out (by omega)
          · have hcb := capB_at (m := (kp, kq)) (atP_first hka (of_decide_eq_true h2) fun j hj hjk => of_decide_eq_false (h3 j hj hjk))
            rw [e1] at HFP
            rw [hcb] at HNX
            obtain ⟨cb, co, hca, -⟩ := (HCS.out _ (HBW.out _ HBk5.out)).cells hka
            subst hca
            have HCC := hid (fun W (h : Below w5.heap.size w5 W) => ms_atC (HCS.out _ (HBW.out _ h)) hka)
            have hz := HCZ.out caps[ka] (List.getElem_mem hka)
            have hk0 : ¬ (ka : Int) < 0 := by omega
            have hkI2 : (ka : Int) < (caps.length : Int) := by omega
            have hkJ : (0 : Int) ≤ (ka : Int) := by omega
            generalize caps[ka] = x at *
            obtain ⟨c1, c2⟩ := x
            simp only at hz HCC
            have HL := hid (fun W => isLess_any c2 kq W hz.2 hkz)
            obtain ⟨nb, hnb, hnd⟩ : ∃ nb : Bool, (c2.toList == [110, 111, 110, 101]) = nb ∧ decide (c2.data.toList = noneL) = nb := by
              by_cases h : c2.data.toList = noneL
              · exact ⟨true, by rw [ByteArray.toList_eq]; exact beq_iff_eq.2 h, decide_eq_true h⟩
              · exact ⟨false, by rw [ByteArray.toList_eq]; exact beq_eq_false_iff_ne.2 h, decide_eq_false h⟩
            have HNY := hid (show anyN (hitN O (univ L) caps) (k + 1) = (cur || (ok && (nb || lessB c2.data.toList kq.data.toList))) by rw [HNX.out, ← hnd])
            generalize lessB c2.data.toList kq.data.toList = z at *
            clear e1 h2 h3 hcb hnd HNX
            go_wp2_with fail
            refine HFP.out.mono ?_
            rintro e w7 ⟨rfl, rfl⟩
            cases ok
            · go_wp2_with fail
              go_roundw
              case rel => first | exact ⟨k + 1, HLK.out, nr_idx k, by rw [HNY.out]; simp, HBk⟩ | exact ⟨k + 1, HLK.out, nx_idx HLK.out (by omega), by rw [HNY.out]; simp, HBk⟩
              case measure => first | exact nr_meas HLK.out | exact nx_meas HLK.out (by omega)
            · obtain ⟨y0, y1⟩ := HCC.out _ HBk5.out
              have HTT := hid (fun W' (hW : Below w7.heap.size w7 W') => (show (fun W' => W'.cell? ⟨b, o + k * 5, none⟩ = some (.string kp) ∧ W'.cell? ⟨b, o + k * 5 + 1, none⟩ = some (.string kq) ∧ W'.cell? ⟨cb, co + ka * 2, none⟩ = some (.string c1) ∧ W'.cell? ⟨cb, co + ka * 2 + 1, none⟩ = some (.string c2) ∧ Hid (Below w7.heap.size w7 W')) W' from ⟨cell_below hW x0, cell_below hW x1, cell_below hW y0, cell_below hW y1, hid hW⟩))
              go_wp2_with fail
              go_region_held (fun W' => W'.cell? ⟨b, o + k * 5, none⟩ = some (.string kp) ∧ W'.cell? ⟨b, o + k * 5 + 1, none⟩ = some (.string kq) ∧ W'.cell? ⟨cb, co + ka * 2, none⟩ = some (.string c1) ∧ W'.cell? ⟨cb, co + ka * 2 + 1, none⟩ = some (.string c2) ∧ Hid (Below w7.heap.size w7 W')) (first | exact HTT.out _ HRa.out | exact HTT.out _ (below_drawn _ 1)) (first
                | (go_at_call 15; refine (HL.out _).mono ?_; rintro e w' ⟨rfl, hb⟩; have HRa := hid ((below_drawn w7 1).trans (hb.mono (Nat.le_refl _))); clear hb))
              all_goals
                have HBq := hid (HBk.out.trans (HRa.out.mono HBk.out.size))
                obtain ⟨-, -, y0, y1, -⟩ := HTT.out _ HRa.out
                cases cur <;> cases z
                all_goals
                  go_wp2_with fail
                  go_roundw
                  case rel => first | exact ⟨k + 1, HLK.out, nr_idx k, by first | (rw [HNY.out]; simp) | (rw [HNY.out]; rfl), HBq⟩ | exact ⟨k + 1, HLK.out, nx_idx HLK.out (by omega), by first | (rw [HNY.out]; simp) | (rw [HNY.out]; rfl), HBq⟩
                  case measure => first | exact nr_meas HLK.out | exact nx_meas HLK.out (by omega)
        · have hkI : ¬ (k : Int) < (Q.length : Int) := by omega
          have hke : k = (univ L).length := by rw [HUL.out]; omega
          rw [hke] at hkI ⊢
          rw [HAN.out]
          have HOk := hid (owns_below HO6.out HBk.out)
          have hwz := HBk5.out.size
          clear hlk hke HBk
          go_wp2_with (at_builtin; refine wpList_append_own _ rfl _ _ 44 rfl w5.heap.size 4 i0 _ 1 1 Tryz.underlying44 hi0 hz0 hz1 hz2 rfl (by decide) _ _ _ rfl (HOk.out.alloc _) ⟨wr.heap.size, 0, none⟩ 1 1 [.bool bi] rfl rfl one_cell ?c2 ?c3 ?c4 ?c5 ?_)
          case c2 => first | rfl | (intro u hu; simp at hu; subst hu; rfl)
          case c3 => unfold maxLen; omega
          case c4 => omega
          case c5 => first | omega | (simp; omega)
          intro v' w8 hown hgrow _
          have HR3 := hid (rel_appK HBk5.out.size HBk5.out HOk.out (Below.refl _ _) hgrow)
          have HO4 := hid (show w8.ownsRow w5.heap.size 4 1 v' (i + 1) ((BL.take (i + 1)).map Value.bool) by rw [HBT.out, List.map_take]; exact hown)
          clear hown hgrow
          go_wp2_with fail
          go_roundw
          case rel => first | exact ⟨i + 1, HLI.out, nr_idx i, HO4, HR3⟩ | exact ⟨i + 1, HLI.out, nx_idx HLI.out (by omega), HO4, HR3⟩
          case measure => first | exact nr_meas HLI.out | exact nx_meas HLI.out (by omega)
    · have hiI : ¬ (i : Int) < (Q.length : Int) := by omega
      have hie : i = BL.length := by rw [HBL.out]; omega
      have HOF := hid (show wr.ownsRow w5.heap.size 4 1 u7 BL.length (BL.map Value.bool) by
        have h := HOW.out
        rw [hie, List.take_length] at h
        exact h)
      have HFN := hid (fun W => fine_any W)
      clear hlt HOW hie
      obtain ⟨oa, oc, hov⟩ := own_slN HOF.out
      subst hov
      go_wp2_with fail
      refine (HFN.out _).mono ?_
      rintro e w6 ⟨rfl, hb⟩
      have HB6 := hid (HBW.out _ (HBr.out.trans (hb.mono HBr.out.size)))
      have HE6 := hid ((hb.block _ (Nat.lt_of_lt_of_le (lt_of_blk HE3.out) HBr.out.size)).trans ((HBr.out.block _ (lt_of_blk HE3.out)).trans HE3.out))
      have HO6 := hid (owns_below HOF.out hb)
      clear hb
      obtain ⟨s0, s1, tf⟩ := box_two HE6.out
      have HO7 := hid (own_bv (own_setN (o := 1) (x := .int .i64 (-1)) (own_setN (o := 0) (x := .int .i64 0) HO6.out HE6.out (by decide)) (set_block (o := 0) (x := .int .i64 0) HE6.out) (by decide)))
      go_wp2_with fail
      refine bodyPost_ret (v := .tuple #[.slice oa BL.length oc, .agg #[.int .i64 0, .int .i64 (-1)]]) (by simp [results, Tryz.results20, go_sem, s0, s1]) rfl ⟨_, rfl, HO7.out, ?_⟩
      exact put2_below HB6.out (Nat.le_refl _)
end Ve
end Go.Proofs.YtjhiajeeijfkeaaGreatDoor

/-
  BadOf of the document's answer, all together; ToOf where something is wrong.
-/
namespace Go.Proofs.YtjhiajeeijfkeaaGreatDoor
open Go.RowKit Go.Maps
namespace Ve

theorem bF_good {Q : List Raw} {L : List Ent} {caps : List Bm} (h0 : (bF Q L caps).1 = 0) : bF Q L caps = (0, none) := by
  refine Prod.ext h0 ?_
  obtain ⟨k0, k1⟩ := bF_chk h0
  have e : bF Q L caps = chkP caps := if_pos k0
  rw [e]
  cases h3 : fstE (capE caps) caps.length with
  | none => exact h3
  | some j =>
    have h4 : codeE (capE caps) caps.length = 0 := k1
    rw [codeE_some h3] at h4
    exact absurd h4 (fstE_of_some h3).2.1
/-- pewholderref2.BadOf. -/
theorem bdo_all (Q : List Raw) (L : List Ent) (caps : List Bm) (v cv : Value) (w : World) (hn : L.length ≤ 1000) (hcn : caps.length ≤ 1000000) (hs : shortL caps) (sh : ∀ e, e ∈ L → ShE e) (I : Ixs w v Q L) (hc : MsAt w cv caps) :
    Calls Tryz.prog 20 #[v, cv] w fun e w' => ∃ a c, e = .returned (.tuple #[.slice a (bO Q L caps).length c, faultV (bF Q L caps)]) ∧ BvAt w' (.slice a (bO Q L caps).length c) (bO Q L caps) ∧ Below w.heap.size w w' := by
  by_cases h0 : (bF Q L caps).1 = 0
  · obtain ⟨k0, k1⟩ := bF_chk h0
    have hb : bO Q L caps = bdL Q L caps := if_pos h0
    rw [hb, bF_good h0]
    refine (bdo_good Q L caps v cv w hn hcn hs sh I hc k0 k1).mono ?_
    rintro e w' ⟨u, rfl, hv, hb⟩
    obtain ⟨a, c, hu, -⟩ := id hv
    subst hu
    exact ⟨a, c, rfl, hv, hb⟩
  · have hb : bO Q L caps = [] := if_neg h0
    rw [hb]
    by_cases hc0 : (chk Q L).1 = 0
    · have e : bF Q L caps = chkP caps := if_pos hc0
      rw [e] at h0 ⊢
      refine (bdo_bad2 Q L caps v cv w hn hcn hs sh I hc hc0 h0).mono ?_
      rintro e w' ⟨rfl, hb⟩
      exact ⟨none, 0, rfl, ⟨none, 0, rfl, fun h => absurd rfl h⟩, hb⟩
    · have e : bF Q L caps = chk Q L := if_neg hc0
      rw [e]
      refine (bdo_bad1 Q L caps v cv w hn sh I hc hc0).mono ?_
      rintro e w' ⟨rfl, hb⟩
      exact ⟨none, 0, rfl, ⟨none, 0, rfl, fun h => absurd rfl h⟩, hb⟩
set_option maxRecDepth 100000 in
set_option maxHeartbeats 4000000 in
theorem too_bad1 (Q : List Raw) (L : List Ent) (roots caps : List Bm) (v rv cv : Value) (w : World) (hn : L.length ≤ 1000) (hcn : caps.length ≤ 1000000) (hs : shortL caps) (sh : ∀ e, e ∈ L → ShE e) (I : Ixs w v Q L) (hr : MsAt w rv roots) (hc : MsAt w cv caps) (h0 : (bF Q L caps).1 ≠ 0) :
    Calls Tryz.prog 21 #[v, rv, cv] w fun e w' => e = .returned (.tuple #[.slice none 0 0, faultV (bF Q L caps)]) ∧ Below w.heap.size w w' := by
  have HB0 := hid ((Below.refl w.heap.size w).alloc (Nat.le_refl _) (.cells #[.int .i64 0, .int .i64 0] 42))
  have HE0 := hid (heap_new w (.cells #[.int .i64 0, .int .i64 0] 42))
  have HIF := hid (bdo_all Q L caps v cv _ hn hcn hs sh (I.below HB0.out) (hc.below HB0.out))
  obtain ⟨a, c, hv1, -⟩ := id I.es
  subst hv1
  obtain ⟨ra, rc, hrv, -⟩ := id hr
  subst hrv
  obtain ⟨ca, c2, hcv, -⟩ := id hc
  subst hcv
  obtain ⟨cc, oo, hco⟩ : ∃ cc oo, bF Q L caps = (cc, oo) := ⟨_, _, rfl⟩
  rw [hco] at HIF h0 ⊢
  unfold faultV at HIF ⊢
  simp only at HIF h0 ⊢
  generalize atOf oo = ao at *
  have hpos : (0 : Int) < (cc : Int) := by omega
  have hnz : ((cc : Int) == 0) = false := by simp; omega
  have hnz2 : ¬ (cc : Int) = 0 := by omega
  clear I hr hc hs sh h0 hco
  go_enter Tryz.func21, Tryz.ntmps21
  go_wp2_with fail
  refine HIF.out.mono ?_
  rintro e w1 ⟨ba, bc, rfl, -, hb⟩
  have HB1 := hid (HB0.out.trans (hb.mono HB0.out.size))
  have HE1 := hid ((hb.block _ (lt_of_blk HE0.out)).trans HE0.out)
  clear hb
  have HB2 := hid (HB1.out.alloc HB1.out.size (.cells #[.int .i64 (cc : Int), .int .i64 ao] 42))
  have HE2 := hid (heap_old w1 (.cells #[.int .i64 (cc : Int), .int .i64 ao] 42) HE1.out)
  have HF2 := hid (heap_new w1 (.cells #[.int .i64 (cc : Int), .int .i64 ao] 42))
  have HLT := hid (lt_of_blk HE1.out)
  have hne : ¬ w1.heap.size = w.heap.size := Nat.ne_of_gt (lt_of_blk HE1.out)
  have hne2 : ¬ w.heap.size = w1.heap.size := Nat.ne_of_lt (lt_of_blk HE1.out)
  go_wp2_with fail
  generalize w1.alloc (.cells #[.int .i64 (cc : Int), .int .i64 ao] 42) = w2 at *
  have HBx := HB2
  have HEx := HE2
  have HFx := HF2
  obtain ⟨s0, s1, tf⟩ := box_two HEx.out
  obtain ⟨f0, f1, _⟩ := box_two HFx.out
  go_region_with fail
  all_goals
    go_wp2_with fail
    refine bodyPost_ret (v := .tuple #[.slice none 0 0, .agg #[.int .i64 (cc : Int), .int .i64 ao]]) (by simp [results, Tryz.results21, go_sem, s0, s1]) rfl ⟨rfl, ?_⟩
    exact put2_below (below_drawn_of HBx.out 1) (Nat.le_refl _)
set_option maxRecDepth 100000 in
set_option maxHeartbeats 4000000 in
theorem too_bad2 (Q : List Raw) (L : List Ent) (roots caps : List Bm) (v rv cv : Value) (w : World) (hn : L.length ≤ 1000) (hrn : roots.length ≤ 1000000) (hcn : caps.length ≤ 1000000) (hs : shortL caps) (sh : ∀ e, e ∈ L → ShE e) (I : Ixs w v Q L) (hr : MsAt w rv roots) (hc : MsAt w cv caps) (h0 : (bF Q L caps).1 = 0) (h1 : (chkG Q L roots).1 ≠ 0) :
    Calls Tryz.prog 21 #[v, rv, cv] w fun e w' => e = .returned (.tuple #[.slice none 0 0, faultV (chkG Q L roots)]) ∧ Below w.heap.size w w' := by
  have HB0 := hid ((Below.refl w.heap.size w).alloc (Nat.le_refl _) (.cells #[.int .i64 0, .int .i64 0] 42))
  have HE0 := hid (heap_new w (.cells #[.int .i64 0, .int .i64 0] 42))
  have HIF := hid (bdo_all Q L caps v cv _ hn hcn hs sh (I.below HB0.out) (hc.below HB0.out))
  rw [bF_good h0] at HIF
  have HRF := hid (fun W (h : Below w.heap.size w W) => rFault_any Q roots v rv W (by rw [I.ln]; exact hn) hrn (I.below h).es (hr.below h))
  rw [← chkG_ok (bF_chk h0).1] at HRF
  obtain ⟨a, c, hv1, -⟩ := id I.es
  subst hv1
  obtain ⟨ra, rc, hrv, -⟩ := id hr
  subst hrv
  obtain ⟨ca, c2, hcv, -⟩ := id hc
  subst hcv
  obtain ⟨rc0, oo1, hcp⟩ : ∃ cc oo, chkG Q L roots = (cc, oo) := ⟨_, _, rfl⟩
  rw [hcp] at HRF h1 ⊢
  unfold faultV at HIF HRF ⊢
  simp only at HIF HRF h1 ⊢
  rw [show atOf none = -1 from rfl] at HIF
  generalize atOf oo1 = ar at *
  have hpos : (0 : Int) < (rc0 : Int) := by omega
  have hnz : ((rc0 : Int) == 0) = false := by simp; omega
  have hnz2 : ¬ (rc0 : Int) = 0 := by omega
  clear I hr hc hs sh h0 h1 hcp
  go_enter Tryz.func21, Tryz.ntmps21
  go_wp2_with fail
  refine HIF.out.mono ?_
  rintro e w1 ⟨ba, bc, rfl, -, hb⟩
  have HB1 := hid (HB0.out.trans (hb.mono HB0.out.size))
  have HE1 := hid ((hb.block _ (lt_of_blk HE0.out)).trans HE0.out)
  clear hb
  have HB2 := hid (HB1.out.alloc HB1.out.size (.cells #[.int .i64 0, .int .i64 (-1)] 42))
  have HE2 := hid (heap_old w1 (.cells #[.int .i64 0, .int .i64 (-1)] 42) HE1.out)
  have HF2 := hid (heap_new w1 (.cells #[.int .i64 0, .int .i64 (-1)] 42))
  have HLT := hid (lt_of_blk HE1.out)
  have hne : ¬ w1.heap.size = w.heap.size := Nat.ne_of_gt (lt_of_blk HE1.out)
  have hne2 : ¬ w.heap.size = w1.heap.size := Nat.ne_of_lt (lt_of_blk HE1.out)
  go_wp2_with fail
  generalize hg2 : w1.alloc (.cells #[.int .i64 0, .int .i64 (-1)] 42) = w2 at *
  clear hg2
  refine (HRF.out _ HB2.out).mono ?_
  rintro e w3 ⟨rfl, hb⟩
  have HB3a := hid (HB2.out.trans (hb.mono HB2.out.size))
  have HE3a := hid ((hb.block _ (lt_of_blk HE2.out)).trans HE2.out)
  have HF3a := hid ((hb.block _ (lt_of_blk HF2.out)).trans HF2.out)
  clear hb
  have HB3 := hid (put2_below (x := .int .i64 (rc0 : Int)) (y := .int .i64 ar) HB3a.out (Nat.le_of_lt HLT.out))
  have HE3 := hid (keep_set (fb := w1.heap.size) (o := 1) (x := .int .i64 ar) (keep_set (fb := w1.heap.size) (o := 0) (x := .int .i64 (rc0 : Int)) HE3a.out hne2) hne2)
  have HF3 := hid (set_block (o := 1) (x := .int .i64 ar) (set_block (o := 0) (x := .int .i64 (rc0 : Int)) HF3a.out))
  obtain ⟨g0, g1, gf⟩ := box_two HF3a.out
  go_wp2_with fail
  generalize hg3 : (w3.setCell ⟨w1.heap.size, 0, none⟩ (.int .i64 (rc0 : Int))).setCell ⟨w1.heap.size, 1, none⟩ (.int .i64 ar) = w3b at *
  clear hg3 g0 g1 gf
  have HF3 : Hid (w3b.heap[w1.heap.size]? = some (.cells #[.int .i64 (rc0 : Int), .int .i64 ar] 42 (0, 0))) := hid HF3.out
  have HBx := HB3
  have HEx := HE3
  have HFx := HF3
  obtain ⟨s0, s1, tf⟩ := box_two HEx.out
  obtain ⟨f0, f1, _⟩ := box_two HFx.out
  go_region_with fail
  all_goals
    go_wp2_with fail
    refine bodyPost_ret (v := .tuple #[.slice none 0 0, .agg #[.int .i64 (rc0 : Int), .int .i64 ar]]) (by simp [results, Tryz.results21, go_sem, s0, s1]) rfl ⟨rfl, ?_⟩
    exact put2_below (below_drawn_of HBx.out 1) (Nat.le_refl _)
end Ve
end Go.Proofs.YtjhiajeeijfkeaaGreatDoor

/-
  ToOf of the document's answer.
-/
namespace Go.Proofs.YtjhiajeeijfkeaaGreatDoor
open Go.RowKit Go.Maps
namespace Ve

theorem selO_leW : ∀ (O : List Bool) (U : List Bm), (selO O U).length ≤ U.length
  | [], _ => by simp [selO]
  | _ :: _, [] => by simp [selO]
  | b :: O, m :: U => by
    have := selO_leW O U
    cases b <;> simp [selO] <;> omega
theorem bst_nextW {U : List Bm} {O : List Bool} {r : Bm} {k : Nat} (h : k < U.length) (h' : k < O.length) : bst U O r (k + 1) = if (decide (U[k].1 = r.1) && (!lessB (vb r) (vb U[k]) && !O[k])) = true then (k : Int) else bst U O r k := by
  rw [← lwB_at h h']; rfl
set_option maxRecDepth 100000 in
set_option maxHeartbeats 8000000 in
theorem too_good (Q : List Raw) (L : List Ent) (roots caps : List Bm) (v rv cv : Value) (w : World) (hn : L.length ≤ 1000) (hrn : roots.length ≤ 1000000) (hcn : caps.length ≤ 1000000) (hs : shortL caps) (hrs : ∀ r, r ∈ roots → r.2.size < 999999) (sh : ∀ e, e ∈ L → ShE e) (I : Ixs w v Q L) (hr : MsAt w rv roots) (hc : MsAt w cv caps) (h0 : (tF Q L roots caps).1 = 0) :
    Calls Tryz.prog 21 #[v, rv, cv] w fun e w' => ∃ u, e = .returned (.tuple #[u, .agg #[.int .i64 0, .int .i64 (-1)]]) ∧ w'.ownsRow w.heap.size 36 2 u (toL Q L roots caps).length (flatM (toL Q L roots caps)) ∧ Below w.heap.size w w' := by
  obtain ⟨hb0, hg0⟩ := tF_ok h0
  obtain ⟨k0, k1⟩ := bF_chk hb0
  have HB0 := hid ((Below.refl w.heap.size w).alloc (Nat.le_refl _) (.cells #[.int .i64 0, .int .i64 0] 42))
  have HE0 := hid (heap_new w (.cells #[.int .i64 0, .int .i64 0] 42))
  have HIF := hid (bdo_good Q L caps v cv _ hn hcn hs sh (I.below HB0.out) (hc.below HB0.out) k0 k1)
  have HRF := hid (fun W (h : Below w.heap.size w W) => rFault_any Q roots v rv W (by rw [I.ln]; exact hn) hrn (I.below h).es (hr.below h))
  have hcg : chkG Q L roots = (0, none) := by
    have e : tF Q L roots caps = chkG Q L roots := if_pos hb0
    rw [← e]; exact tF_good h0
  rw [← chkG_ok k0, hcg] at HRF
  unfold faultV at HRF
  simp only at HRF
  rw [show atOf none = -1 from rfl] at HRF
  have HUL := hid (show (univ L).length = Q.length by rw [I.ln]; simp [univ])
  have HBL := hid (show (bdL Q L caps).length = Q.length by rw [bdL_len, I.ln])
  have hqn : Q.length ≤ 1000 := by rw [I.ln]; exact hn
  have HES := hid (fun W (h : Below w.heap.size w W) => (I.below h).es)
  have HRS := hid (fun W (h : Below w.heap.size w W) => hr.below h)
  have HRZ := hid hrs
  have HUZ := hid (fun i (hi : i < (univ L).length) => show (univ L)[i].2.size < 999999 by
    have hi' : i < L.length := by rw [univ_len] at hi; exact hi
    have := (sh L[i] (List.getElem_mem hi')).v
    simpa [univ] using this)
  have HUM := hid (fun i (hi : i < Q.length) (hi' : i < (univ L).length) => show Q[i].1 = (univ L)[i] by
    have := (I.ok i hi (by rw [← I.ln]; exact hi)).m
    simp only [univ, List.getElem_map]
    exact this)
  unfold toL
  obtain ⟨i0, hi0, hz0, hz1, hz2⟩ := info_parts infoMod
  obtain ⟨a, c, hv1, -⟩ := id I.es
  subst hv1
  obtain ⟨ra, rc, hrv, -⟩ := id hr
  subst hrv
  obtain ⟨ca, c2, hcv, -⟩ := id hc
  subst hcv
  clear I hr hc hs hrs sh h0 hb0 hg0 k0 k1 hcg
  generalize bdL Q L caps = BL at *
  generalize univ L = U at *
  go_enter Tryz.func21, Tryz.ntmps21
  go_wp2_with fail
  refine HIF.out.mono ?_
  rintro e w1 ⟨u1, rfl, hbv, hb⟩
  have HB1 := hid (HB0.out.trans (hb.mono HB0.out.size))
  have HE1 := hid ((hb.block _ (lt_of_blk HE0.out)).trans HE0.out)
  have HBV := hid (fun W (h : Below w1.heap.size w1 W) => hbv.below h)
  obtain ⟨ba, bc, hu1, -⟩ := id hbv
  subst hu1
  clear hb hbv
  have HB2 := hid (HB1.out.alloc HB1.out.size (.cells #[.int .i64 0, .int .i64 (-1)] 42))
  have HN2 := hid ((Below.refl w1.heap.size w1).alloc (Nat.le_refl _) (.cells #[.int .i64 0, .int .i64 (-1)] 42))
  have HE2 := hid (heap_old w1 (.cells #[.int .i64 0, .int .i64 (-1)] 42) HE1.out)
  have HF2 := hid (heap_new w1 (.cells #[.int .i64 0, .int .i64 (-1)] 42))
  have HLT := hid (lt_of_blk HE1.out)
  have hne : ¬ w1.heap.size = w.heap.size := Nat.ne_of_gt (lt_of_blk HE1.out)
  have hne2 : ¬ w.heap.size = w1.heap.size := Nat.ne_of_lt (lt_of_blk HE1.out)
  go_wp2_with fail
  generalize hg2 : w1.alloc (.cells #[.int .i64 0, .int .i64 (-1)] 42) = w2 at *
  clear hg2
  refine (HRF.out _ HB2.out).mono ?_
  rintro e w3 ⟨rfl, hb⟩
  have HB3a := hid (HB2.out.trans (hb.mono HB2.out.size))
  have HN3a := hid (HN2.out.trans (hb.mono HN2.out.size))
  have HE3a := hid ((hb.block _ (lt_of_blk HE2.out)).trans HE2.out)
  have HF3a := hid ((hb.block _ (lt_of_blk HF2.out)).trans HF2.out)
  clear hb
  have HB3 := hid (put2_below (x := .int .i64 0) (y := .int .i64 (-1)) HB3a.out (Nat.le_of_lt HLT.out))
  have HN3 := hid (put2_below (x := .int .i64 0) (y := .int .i64 (-1)) HN3a.out (Nat.le_refl w1.heap.size))
  have HE3 := hid (keep_set (fb := w1.heap.size) (o := 1) (x := .int .i64 (-1)) (keep_set (fb := w1.heap.size) (o := 0) (x := .int .i64 0) HE3a.out hne2) hne2)
  have HF3 := hid (set_block (o := 1) (x := .int .i64 (-1)) (set_block (o := 0) (x := .int .i64 0) HF3a.out))
  obtain ⟨g0, g1, gf⟩ := box_two HF3a.out
  go_upto_region 6 with fail
  generalize hg3 : (w3.setCell ⟨w1.heap.size, 0, none⟩ (.int .i64 0)).setCell ⟨w1.heap.size, 1, none⟩ (.int .i64 (-1)) = w4 at *
  clear hg3 g0 g1 gf HIF HRF HE3a HF3a HB3a HE2 HF2 HB2 HE1 HB1 HE0 HB0 HN2 HN3a HF3 hne hne2
  have HBW := hid (fun W (h : Below w4.heap.size w4 W) => HB3.out.trans (h.mono HB3.out.size))
  have HNW := hid (fun W (h : Below w4.heap.size w4 W) => HBV.out W (HN3.out.trans (h.mono HN3.out.size)))
  have hw4 := HB3.out.size
  have hmk := make_bools Q.length w4 (by omega)
  have HM0 := hid (show Mb w4 (w4.alloc (.cells (bwc (List.replicate Q.length false)) 4)) w4.heap.size (kpN U BL (roots.take 0)) from ⟨(Below.refl w4.heap.size w4).alloc (Nat.le_refl _) _, Nat.le_refl _, by rw [List.take_zero, kpN_zero, HUL.out]; exact heap_new w4 _⟩)
  clear HBV HN3 HB3
  go_wp2_with fail
  clear hmk
  go_loopw [11] (fun iv wr => ∃ i : Nat, i ≤ roots.length ∧ iv = .int .i64 i ∧ Hid (Mb w4 wr w4.heap.size (kpN U BL (roots.take i)))) (fun iv _ => roots.length - (intOf iv).toNat)
  case atStart => exact ⟨0, Nat.zero_le _, rfl, HM0⟩
  case round =>
    clear HM0
    obtain ⟨i, hi, rfl, HMi⟩ := hrel
    by_cases hlt : i < roots.length
    · have hiI : (i : Int) < (roots.length : Int) := by omega
      have hii : (0 : Int) ≤ (i : Int) := by omega
      have HLI := hid hlt
      obtain ⟨rb, ro, hra, -, -⟩ := (HRS.out _ (HBW.out _ HMi.out.bl)).cells hlt
      subst hra
      obtain ⟨r, hrc, hrz, hrt⟩ : ∃ r : Bm, (∀ W, Below w4.heap.size w4 W → W.cell? ⟨rb, ro + i * 2, none⟩ = some (.string r.1) ∧ W.cell? ⟨rb, ro + i * 2 + 1, none⟩ = some (.string r.2)) ∧ r.2.size < 999999 ∧ roots.take (i + 1) = roots.take i ++ [r] := ⟨_, fun W h => ms_atC (HRS.out _ (HBW.out _ h)) hlt, HRZ.out _ (List.getElem_mem hlt), List.take_succ_eq_append_getElem hlt⟩
      obtain ⟨r1, r2⟩ := r
      simp only at hrz hrc
      have HRC := hid hrc
      have HRT := hid hrt
      have HKN := hid (fun h => kpN_none (U := U) (O := BL) (R := roots.take i) (r := (r1, r2)) h)
      have HKS := hid (fun k h => kpN_some (U := U) (O := BL) (R := roots.take i) (r := (r1, r2)) (k := k) h)
      have HBI := hid (bst_is U BL (r1, r2) U.length)
      have HKL := hid (kpN_len U BL (roots.take i))
      rw [← HRT.out] at HKN HKS
      generalize kpN U BL (roots.take i) = KP at *
      clear hlt hrc hrt HRT
      go_wp2_with fail
      go_loopw [12, 13] (fun bv kv wr => ∃ k : Nat, k ≤ Q.length ∧ kv = .int .i64 k ∧ bv = .int .i64 (bst U BL (r1, r2) k) ∧ Hid (Mb w4 wr w4.heap.size KP)) (fun _ kv _ => Q.length - (intOf kv).toNat)
      case atStart => exact ⟨0, Nat.zero_le _, rfl, rfl, HMi⟩
      case round =>
        clear HMi
        obtain ⟨k, hk, rfl, rfl, HMk⟩ := hrel
        by_cases hlk : k < Q.length
        · have hkI : (k : Int) < (Q.length : Int) := by omega
          have hki : (0 : Int) ≤ (k : Int) := by omega
          have HLK := hid hlk
          have hkU : k < U.length := by rw [HUL.out]; exact hlk
          have hkB : k < BL.length := by rw [HBL.out]; exact hlk
          have hkB2 : (k : Int) < (BL.length : Int) := by omega
          obtain ⟨b, o, hab, -⟩ := es_cells (HES.out _ (HBW.out _ HMk.out.bl)) hlk
          subst hab
          obtain ⟨bb, bo, hba, -⟩ := (HNW.out _ HMk.out.bl).cells hkB
          subst hba
          have HEK := hid (fun W (h : Below w4.heap.size w4 W) => show W.cell? ⟨b, o + k * 5, none⟩ = some (.string (Q[k]'hlk).1.1) ∧ W.cell? ⟨b, o + k * 5 + 1, none⟩ = some (.string (Q[k]'hlk).1.2) from ⟨(es_all (HES.out _ (HBW.out _ h)) hlk).2.1, (es_all (HES.out _ (HBW.out _ h)) hlk).2.2.1⟩)
          rw [HUM.out k hlk hkU] at HEK
          have HBK := hid (fun W (h : Below w4.heap.size w4 W) => (HNW.out _ h).at hkB)
          have HNX := hid (bst_nextW (r := (r1, r2)) hkU hkB)
          have hkz := HUZ.out k hkU
          generalize U[k] = um at *
          obtain ⟨kp, kq⟩ := um
          obtain ⟨bk, hbk⟩ : ∃ x, BL[k] = x := ⟨_, rfl⟩
          rw [hbk] at HBK HNX
          simp only at hkz HEK
          have HL := hid (fun W => isLess_any r2 kq W hrz hkz)
          obtain ⟨pe, hpe, hpd⟩ : ∃ pe : Bool, (kp.toList == r1.toList) = pe ∧ decide (kp = r1) = pe := by
            by_cases h : kp = r1
            · subst h; exact ⟨true, str_refl kp, decide_eq_true rfl⟩
            · exact ⟨false, str_ne h, decide_eq_false h⟩
          have HNY := hid (show bst U BL (r1, r2) (k + 1) = if (pe && (!lessB r2.data.toList kq.data.toList && !bk)) = true then (k : Int) else bst U BL (r1, r2) k by rw [HNX.out, ← hpd])
          generalize bst U BL (r1, r2) k = cur at *
          generalize lessB r2.data.toList kq.data.toList = more at *
          clear hlk hbk hpd HNX
          obtain ⟨s0, s1⟩ := HRC.out _ HMk.out.bl
          obtain ⟨t0, t1⟩ := HEK.out _ HMk.out.bl
          have HTT := hid (fun W' (hW : Below wr.heap.size wr W') => (show (fun W' => W'.cell? ⟨rb, ro + i * 2, none⟩ = some (.string r1) ∧ W'.cell? ⟨rb, ro + i * 2 + 1, none⟩ = some (.string r2) ∧ W'.cell? ⟨b, o + k * 5, none⟩ = some (.string kp) ∧ W'.cell? ⟨b, o + k * 5 + 1, none⟩ = some (.string kq) ∧ Hid (Below wr.heap.size wr W')) W' from ⟨cell_below hW s0, cell_below hW s1, cell_below hW t0, cell_below hW t1, hid hW⟩))
          go_wp2_with fail
          go_region_held (fun W' => W'.cell? ⟨rb, ro + i * 2, none⟩ = some (.string r1) ∧ W'.cell? ⟨rb, ro + i * 2 + 1, none⟩ = some (.string r2) ∧ W'.cell? ⟨b, o + k * 5, none⟩ = some (.string kp) ∧ W'.cell? ⟨b, o + k * 5 + 1, none⟩ = some (.string kq) ∧ Hid (Below wr.heap.size wr W')) (first | exact HTT.out _ HRa.out | exact HTT.out _ (below_drawn _ 1)) (first
            | (go_at_call 15; refine (HL.out _).mono ?_; rintro e w' ⟨rfl, hb⟩; have HRa := hid ((below_drawn wr 1).trans (hb.mono (Nat.le_refl _))); clear hb))
          all_goals
            have HGa := hid (HMk.out.below HRa.out)
            clear s0 s1 t0 t1
            obtain ⟨s0, s1⟩ := HRC.out _ HGa.out.bl
            obtain ⟨t0, t1⟩ := HEK.out _ HGa.out.bl
            have q0 := HBK.out _ HGa.out.bl
            cases pe <;> cases more <;> cases bk
            all_goals
              go_wp2_with fail
              go_quiet (fail)
              go_wp2_with fail
              go_roundw
              case rel => first | exact ⟨k + 1, HLK.out, nr_idx k, by first | (rw [HNY.out]; rfl) | (rw [HNY.out]; simp), hid (HGa.out.below (below_drawn _ _))⟩ | exact ⟨k + 1, HLK.out, nx_idx HLK.out (by omega), by first | (rw [HNY.out]; rfl) | (rw [HNY.out]; simp), hid (HGa.out.below (below_drawn _ _))⟩
              case measure => first | exact nr_meas HLK.out | exact nx_meas HLK.out (by omega)
        · have hkI : ¬ (k : Int) < (Q.length : Int) := by omega
          have hke : k = U.length := by rw [HUL.out]; omega
          rw [hke] at hkI ⊢
          clear hlk hke
          rcases HBI.out with ⟨e, -⟩ | ⟨kb, hkb, e, -, -⟩
          · have HKQ := hid (HKN.out (by rw [e]; decide))
            rw [e]
            clear e
            go_wp2_with fail
            go_roundw
            case rel => first | exact ⟨i + 1, HLI.out, nr_idx i, hid (by rw [HKQ.out]; exact HMk.out)⟩ | exact ⟨i + 1, HLI.out, nx_idx HLI.out (by omega), hid (by rw [HKQ.out]; exact HMk.out)⟩
            case measure => first | exact nr_meas HLI.out | exact nx_meas HLI.out (by omega)
          · have HKQ := hid (HKS.out kb e)
            rw [e]
            have hkl : kb < KP.length := by rw [HKL.out]; exact hkb
            obtain ⟨z0, zf⟩ := HMk.out.at hkl
            have hb0 : (0 : Int) ≤ (kb : Int) := by omega
            have hb1 : (kb : Int) < (Q.length : Int) := by have := HUL.out; omega
            have HMS := hid (HMk.out.set kb true)
            clear e
            go_wp2_with fail
            go_roundw
            case rel => first | exact ⟨i + 1, HLI.out, nr_idx i, hid (by rw [HKQ.out]; exact HMS.out)⟩ | exact ⟨i + 1, HLI.out, nx_idx HLI.out (by omega), hid (by rw [HKQ.out]; exact HMS.out)⟩
            case measure => first | exact nr_meas HLI.out | exact nx_meas HLI.out (by omega)
    · have hiI : ¬ (i : Int) < (roots.length : Int) := by omega
      have hie : i = roots.length := by omega
      have HMf := hid (show Mb w4 wr w4.heap.size (kpN U BL roots) by
        have h := HMi.out
        rw [hie, List.take_length] at h
        exact h)
      have HOL := hid (kpN_len U BL roots)
      have HSL := hid (fun (x : List Bool) (y : List Bm) => selO_leW x y)
      obtain ⟨O, hOe⟩ : ∃ O, kpN U BL roots = O := ⟨_, rfl⟩
      rw [hOe] at HMf HOL
      have HOE := hid hOe
      clear hOe
      clear hlt hie HMi
      obtain ⟨w5, hw5⟩ : ∃ w5, w5 = wr := ⟨_, rfl⟩
      subst hw5
      have h45 := HMf.out.bl.size
      have HB5 := hid (HBW.out _ HMf.out.bl)
      have HHP := hid HMf.out.hp
      have HE5 := hid ((HMf.out.bl.block _ (lt_of_blk HE3.out)).trans HE3.out)
      clear HMf
      go_wp2_with fail
      go_loopw [15, 16] (fun ov iv wr => ∃ i : Nat, i ≤ Q.length ∧ iv = .int .i64 i ∧ Hid (wr.ownsRow w5.heap.size 36 2 ov (selO (O.take i) (U.take i)).length (flatM (selO (O.take i) (U.take i)))) ∧ (selO (O.take i) (U.take i)).length ≤ i ∧ Hid (Below w5.heap.size w5 wr)) (fun _ iv _ => Q.length - (intOf iv).toNat)
      case atStart => exact ⟨0, Nat.zero_le _, rfl, hid (by simp only [List.take_zero, selO]; exact World.ownsRow_nil _ _ _ _), by simp [selO], hid (Below.refl _ _)⟩
      case round =>
        obtain ⟨i, hi, rfl, HOW, hsl, HBr⟩ := hrel
        by_cases hlt2 : i < Q.length
        · have hiI : (i : Int) < (Q.length : Int) := by omega
          have hii : (0 : Int) ≤ (i : Int) := by omega
          have HLI := hid hlt2
          have hiU : i < U.length := by rw [HUL.out]; exact hlt2
          have hiO : i < O.length := by rw [HOL.out]; exact hiU
          have HBw := hid (HB5.out.trans (HBr.out.mono HB5.out.size))
          have m0 := cell_below HBr.out (bwc_at HHP.out hiO)
          have hes := HES.out _ HBw.out
          obtain ⟨b, o, hab, -⟩ := es_cells hes hlt2
          subst hab
          obtain ⟨-, x0, x1, -, -, -⟩ := es_all hes hlt2
          have HST := hid (selO_take O U i hiO hiU)
          rw [HUM.out i hlt2 hiU] at x0 x1
          generalize U[i] = um at *
          obtain ⟨up, uq⟩ := um
          simp only at x0 x1
          have hwz := HBr.out.size
          clear hes hlt2
          cases hoi : O[i]
          · rw [hoi] at m0 HST
            have HST2 := hid (show selO (O.take (i + 1)) (U.take (i + 1)) = selO (O.take i) (U.take i) by rw [HST.out]; simp)
            clear hoi
            go_wp2_with fail
            go_roundw
            case rel => first | exact ⟨i + 1, HLI.out, nr_idx i, hid (by rw [HST2.out]; exact HOW.out), by rw [HST2.out]; omega, HBr⟩ | exact ⟨i + 1, HLI.out, nx_idx HLI.out (by omega), hid (by rw [HST2.out]; exact HOW.out), by rw [HST2.out]; omega, HBr⟩
            case measure => first | exact nr_meas HLI.out | exact nx_meas HLI.out (by omega)
          · rw [hoi] at m0 HST
            have HST2 := hid (show selO (O.take (i + 1)) (U.take (i + 1)) = selO (O.take i) (U.take i) ++ [(up, uq)] by rw [HST.out]; simp)
            obtain ⟨SX, hSX⟩ : ∃ SX, selO (O.take i) (U.take i) = SX := ⟨_, rfl⟩
            rw [hSX] at HOW HST2 hsl
            clear hoi hSX HST
            go_wp2_with (at_builtin; refine wpList_append_own _ rfl _ _ 23 rfl w5.heap.size 36 i0 _ 2 32 Tryz.underlying23 hi0 hz0 hz1 hz2 rfl (by decide) _ _ _ rfl (HOW.out.alloc _) ⟨wr.heap.size, 0, none⟩ 1 1 [.string up, .string uq] rfl rfl ?c1 ?c2 ?c3 ?c4 ?c5 ?_)
            case c1 =>
              intro t u ht
              match t, ht with
              | 0, ht => simp at ht; subst ht; simp [Addr.add]
              | 1, ht => simp at ht; subst ht; simp [Addr.add]
              | t + 2, ht => simp at ht
            case c2 => intro u hu; simp at hu; rcases hu with rfl | rfl <;> rfl
            case c3 => unfold maxLen; omega
            case c4 => omega
            case c5 => first | omega | (simp; omega)
            intro v' w6 hown hgrow _
            have HR3 := hid (rel_appK HBr.out.size HBr.out HOW.out (Below.refl _ _) hgrow)
            have HO4 := hid (show w6.ownsRow w5.heap.size 36 2 v' (SX ++ [(up, uq)]).length (flatM (SX ++ [(up, uq)])) by rw [List.length_append, flatM_app]; exact hown)
            clear hown hgrow
            go_wp2_with fail
            go_roundw
            case rel => first | exact ⟨i + 1, HLI.out, nr_idx i, hid (by rw [HST2.out]; exact HO4.out), by rw [HST2.out]; simp; omega, HR3⟩ | exact ⟨i + 1, HLI.out, nx_idx HLI.out (by omega), hid (by rw [HST2.out]; exact HO4.out), by rw [HST2.out]; simp; omega, HR3⟩
            case measure => first | exact nr_meas HLI.out | exact nx_meas HLI.out (by omega)
        · have hiI : ¬ (i : Int) < (Q.length : Int) := by omega
          have hie : i = Q.length := by omega
          have HOF := hid (show wr.ownsRow w5.heap.size 36 2 u15 (selO O U).length (flatM (selO O U)) by
            have h := HOW.out
            rw [List.take_of_length_le (by rw [HOL.out, HUL.out]; omega), List.take_of_length_le (by rw [HUL.out]; omega)] at h
            exact h)
          have HFN := hid (fun W => fine_any W)
          clear hlt2 HOW hsl
          obtain ⟨oa, oc, hov⟩ := own_slN HOF.out
          subst hov
          go_wp2_with fail
          refine (HFN.out _).mono ?_
          rintro e w6 ⟨rfl, hb⟩
          have HB6 := hid ((HB5.out.trans (HBr.out.mono HB5.out.size)).trans (hb.mono (Nat.le_trans HB5.out.size HBr.out.size)))
          have HE6 := hid ((hb.block _ (Nat.lt_of_lt_of_le (lt_of_blk HE5.out) HBr.out.size)).trans ((HBr.out.block _ (lt_of_blk HE5.out)).trans HE5.out))
          have HO6 := hid (owns_below HOF.out hb)
          clear hb
          obtain ⟨s0, s1, tf⟩ := box_two HE6.out
          have HO7 := hid (own_baseN (own_setN (o := 1) (x := .int .i64 (-1)) (own_setN (o := 0) (x := .int .i64 0) HO6.out HE6.out (by decide)) (set_block (o := 0) (x := .int .i64 0) HE6.out) (by decide)) (show w.heap.size ≤ w5.heap.size by omega))
          go_wp2_with fail
          refine bodyPost_ret (v := .tuple #[.slice oa (selO O U).length oc, .agg #[.int .i64 0, .int .i64 (-1)]]) (by simp [results, Tryz.results21, go_sem, s0, s1]) rfl ⟨_, rfl, by rw [HOE.out]; exact HO7.out, ?_⟩
          exact put2_below HB6.out (Nat.le_refl _)
/-- pewholderref2.ToOf. -/
theorem too_all (Q : List Raw) (L : List Ent) (roots caps : List Bm) (v rv cv : Value) (w : World) (hn : L.length ≤ 1000) (hrn : roots.length ≤ 1000000) (hcn : caps.length ≤ 1000000) (hs : shortL caps) (hrs : ∀ r, r ∈ roots → r.2.size < 999999) (sh : ∀ e, e ∈ L → ShE e) (I : Ixs w v Q L) (hr : MsAt w rv roots) (hc : MsAt w cv caps) :
    Calls Tryz.prog 21 #[v, rv, cv] w fun e w' => ∃ a c, e = .returned (.tuple #[.slice a (tX Q L roots caps).length c, faultV (tF Q L roots caps)]) ∧ MsAt w' (.slice a (tX Q L roots caps).length c) (tX Q L roots caps) ∧ Below w.heap.size w w' := by
  by_cases h : (tF Q L roots caps).1 = 0
  · have ht : tX Q L roots caps = toL Q L roots caps := if_pos h
    rw [ht, tF_good h]
    refine (too_good Q L roots caps v rv cv w hn hrn hcn hs hrs sh I hr hc h).mono ?_
    rintro e w' ⟨u, rfl, ho, hb⟩
    have hm := own_ms ho
    obtain ⟨a, c, hu⟩ := own_slN ho
    subst hu
    exact ⟨a, c, rfl, hm, hb⟩
  · have ht : tX Q L roots caps = [] := if_neg h
    rw [ht]
    by_cases hb : (bF Q L caps).1 = 0
    · have e : tF Q L roots caps = chkG Q L roots := if_pos hb
      rw [e] at h ⊢
      refine (too_bad2 Q L roots caps v rv cv w hn hrn hcn hs sh I hr hc hb h).mono ?_
      rintro e w' ⟨rfl, hb⟩
      exact ⟨none, 0, rfl, ⟨none, 0, rfl, Nat.zero_le _, fun h => absurd rfl h⟩, hb⟩
    · have e : tF Q L roots caps = bF Q L caps := if_neg hb
      rw [e]
      refine (too_bad1 Q L roots caps v rv cv w hn hcn hs sh I hr hc hb).mono ?_
      rintro e w' ⟨rfl, hb⟩
      exact ⟨none, 0, rfl, ⟨none, 0, rfl, Nat.zero_le _, fun h => absurd rfl h⟩, hb⟩
end Ve
end Go.Proofs.YtjhiajeeijfkeaaGreatDoor

/-
  pewholderlaw2.DownTells walked: what Check, Bad and To of package down say is what the document says.
-/
namespace Go.Proofs.YtjhiajeeijfkeaaGreatDoor
open Go.RowKit Go.Maps
namespace Ve

theorem cell_set_neD {W : World} {b o g p : Nat} {x v : Value} (h : W.cell? ⟨b, o, none⟩ = some v) (hne : b ≠ g) : (W.setCell ⟨g, p, none⟩ x).cell? ⟨b, o, none⟩ = some v := by
  unfold World.cell? at h ⊢
  rw [Below.heap_setCell _ _ _ _ hne]
  exact h
theorem ErrAt.set2D {W : World} {A : Nat → Addr} {y : Value} {c : Nat} {o : Option Nat} {g : Nat} {z : Value} {n : Int} {T : TypeId} (h : ErrAt W A y c o) (hg : W.heap[g]? = some (.cells #[z, .int .i64 n] T (0, 0))) (a b : Value) : ErrAt ((W.setCell ⟨g, 0, none⟩ a).setCell ⟨g, 1, none⟩ b) A y c o := by
  cases o with
  | none => exact h
  | some i =>
    obtain ⟨h0, f, rfl, h1, h2⟩ := h
    have hne : f ≠ g := fun e => by
      subst e
      obtain ⟨_, g1, _⟩ := box_two hg
      rw [g1, errA_if A h0] at h2
      cases h2
    exact ⟨h0, f, rfl, cell_set_neD (cell_set_neD h1 hne) hne, cell_set_neD (cell_set_neD h2 hne) hne⟩
theorem box_put2D {W : World} {g : Nat} {x y : Value} {T : TypeId} (a b : Value) (h : W.heap[g]? = some (.cells #[x, y] T (0, 0))) : ((W.setCell ⟨g, 0, none⟩ a).setCell ⟨g, 1, none⟩ b).heap[g]? = some (.cells #[a, b] T (0, 0)) :=
  set_block (o := 1) (x := b) (set_block (o := 0) (x := a) h)
theorem ms_put2D {W : World} {v : Value} {E : List Bm} {b : Nat} {n : Int} {z : Value} {T : TypeId} {x y : Value} (h : MsAt W v E) (hb : W.heap[b]? = some (.cells #[z, .int .i64 n] T (0, 0))) : MsAt ((W.setCell ⟨b, 0, none⟩ x).setCell ⟨b, 1, none⟩ y) v E := by
  obtain ⟨a, c, rfl, h1, h2⟩ := h
  refine ⟨a, c, rfl, h1, fun hE => ?_⟩
  obtain ⟨g, o, rfl, h3⟩ := h2 hE
  have hne : g ≠ b := fun e => by
    subst e
    have h0 : 0 < E.length := List.length_pos_iff.2 hE
    obtain ⟨c0, c1⟩ := h3 0 h0
    rw [Lib.cell_of_heap hb] at c1
    have h4 : (#[z, .int .i64 n] : Array Value)[o + 0 * 2 + 1]? = some (.string E[0].2) := c1
    cases o with
    | zero => simp at h4
    | succ o => simp at h4
  exact ⟨g, o, rfl, fun j hj => ⟨cell_set_neD (cell_set_neD (h3 j hj).1 hne) hne, cell_set_neD (cell_set_neD (h3 j hj).2 hne) hne⟩⟩
theorem bs_bv {W : World} {v : Value} {O : List Bool} (h : BsAt W v O) : BvAt W v O := by
  obtain ⟨a, c, rfl, h1⟩ := h
  refine ⟨a, c, rfl, fun hO => ?_⟩
  obtain ⟨g, rfl, h2⟩ := h1 hO
  exact ⟨g, 0, rfl, fun j hj => by rw [Nat.zero_add]; exact bwc_at h2 hj⟩
theorem capE_le (caps : List Bm) (i : Nat) : capE caps i ≤ 10 := by
  unfold capE
  split
  · omega
  · unfold capW
    rename_i m _
    have h1 := pathErr_err m.1.data.toList
    have h2 := verErr_err (vb m)
    repeat' split
    all_goals omega
theorem chkP_le (caps : List Bm) : (chkP caps).1 ≤ 10 := codeE_le (capE_le caps)
theorem bF_le (Q : List Raw) (L : List Ent) (caps : List Bm) : (bF Q L caps).1 ≤ 10 := by
  unfold bF
  split
  · exact chkP_le _
  · exact chk_le _ _
theorem tF_le (Q : List Raw) (L : List Ent) (roots caps : List Bm) : (tF Q L roots caps).1 ≤ 10 := by
  unfold tF
  split
  · exact chkG_le _ _ _
  · exact bF_le _ _ _
theorem bF_same {Q Q' : List Raw} {L : List Ent} (h : Q.map (fun r => r.1) = Q'.map (fun r => r.1)) (caps : List Bm) : bF Q L caps = bF Q' L caps := by unfold bF; rw [chk_same h]
theorem bdL_same {Q Q' : List Raw} {L : List Ent} (h : Q.map (fun r => r.1) = Q'.map (fun r => r.1)) (caps : List Bm) : bdL Q L caps = bdL Q' L caps := by unfold bdL; rw [reqQ_same h]
theorem bO_same {Q Q' : List Raw} {L : List Ent} (h : Q.map (fun r => r.1) = Q'.map (fun r => r.1)) (caps : List Bm) : bO Q L caps = bO Q' L caps := by unfold bO; rw [bF_same h, bdL_same h]
theorem tF_same {Q Q' : List Raw} {L : List Ent} (h : Q.map (fun r => r.1) = Q'.map (fun r => r.1)) (roots caps : List Bm) : tF Q L roots caps = tF Q' L roots caps := by unfold tF; rw [bF_same h, chkG_same h]
theorem tX_same {Q Q' : List Raw} {L : List Ent} (h : Q.map (fun r => r.1) = Q'.map (fun r => r.1)) (roots caps : List Bm) : tX Q L roots caps = tX Q' L roots caps := by unfold tX toL; rw [tF_same h, bdL_same h]
theorem bO_len (Q : List Raw) (L : List Ent) (caps : List Bm) : (bO Q L caps).length ≤ L.length := by
  unfold bO
  split
  · rw [bdL_len]; exact Nat.le_refl _
  · simp
theorem tX_len (Q : List Raw) (L : List Ent) (roots caps : List Bm) : (tX Q L roots caps).length ≤ L.length := by
  unfold tX toL
  split
  · have := selO_leW (kpN (univ L) (bdL Q L caps) roots) (univ L)
    rw [univ_len] at this; exact this
  · simp
set_option maxRecDepth 100000 in
set_option maxHeartbeats 8000000 in
theorem dt_main (Q0 : List Raw) (L : List Ent) (roots caps : List Bm) (v u s : Value) (A : Nat → Addr) (m : Int) (w : World) (S : Te w A m) (N : Er.Sen w A) (I : Ixs w v Q0 L) (em : EmI Q0 L) (hr : MsAt w u roots) (her : Em u roots) (hc : MsAt w s caps) (hec : Em s caps) (hok : okI L = true) (h30 : L.length ≤ 30) (hrk : okLN 15 roots = true) (hck : okLN 15 caps = true) :
    Calls Tryz.prog 4 #[v, u, s] w fun e w' => e = .returned (.bool true) ∧ Below w.heap.size w w' := by
  obtain ⟨a0, c0, hv0, -⟩ := id I.es
  subst hv0
  obtain ⟨ra, rc, hu0, -⟩ := id hr
  subst hu0
  obtain ⟨ca, cc, hs0, -⟩ := id hc
  subst hs0
  have hr15 : roots.length ≤ 15 := (okLN_iff hrk).1
  have hc15 : caps.length ≤ 15 := (okLN_iff hck).1
  have hq30 : (Q0.length : Int) ≤ 30 := by rw [I.ln]; omega
  have HZR := hid (show ∀ x, x ∈ roots → x.2.size < 999999 from fun x hx => by have := ((okLN_iff hrk).2 x hx).2; omega)
  have HZC := hid (show shortL caps from fun x hx => by have := (okLN_iff hck).2 x hx; exact ⟨by omega, by omega⟩)
  have HIN := hid (low_any A m w S)
  have HLO := hid (fun W (h : Below w.heap.size w W) => longI_any Q0 L _ W (I.below h))
  rw [if_pos hok] at HLO
  have HLM := hid (fun W (h : Below w.heap.size w W) => longN_any 15 (by decide) roots _ W (hr.below h))
  rw [if_pos hrk] at HLM
  have HLC := hid (fun W (h : Below w.heap.size w W) => longN_any 15 (by decide) caps _ W (hc.below h))
  rw [if_pos hck] at HLC
  have HOW := hid (fun W (h : Below w.heap.size w W) => ownI_any Q0 L _ W (by omega) (I.below h) em (okI_fits hok))
  have HOM := hid (fun W (h : Below w.heap.size w W) => ownM_any _ roots W (by omega) (hr.below h) her)
  have HOC := hid (fun W (h : Below w.heap.size w W) => ownM_any _ caps W (by omega) (hc.below h) hec)
  have HS := hid (fun W (h : Below w.heap.size w W) => S.below h)
  have HN := hid (fun W (h : Below w.heap.size w W) => N.below h)
  have HSH := hid (okI_sh hok)
  have HU0 := hid (univ_eq I)
  have HCF := hid (fun W (h : Below w.heap.size w W) => capsF_any caps _ W (by omega) HZC.out (hc.below h))
  have HBO := hid (fun W (h : Below w.heap.size w W) => bdo_all Q0 L caps _ _ W (by omega) (by omega) HZC.out (okI_sh hok) (I.below h) (hc.below h))
  have HTO := hid (fun W (h : Below w.heap.size w W) => too_all Q0 L roots caps _ _ _ W (by omega) (by omega) (by omega) HZC.out HZR.out (okI_sh hok) (I.below h) (hr.below h) (hc.below h))
  clear S N I em hok hr her hrk hc hec hck
  go_enter Tryz.func4, Tryz.ntmps4
  go_wp2_with fail
  refine HIN.out.mono ?_
  rintro e w1 ⟨rfl, hb⟩
  have HB1 := hid hb
  clear hb
  go_wp2_with fail
  refine (HLO.out w1 HB1.out).mono ?_
  rintro e w2 ⟨rfl, hb⟩
  have HB2 := hid (HB1.out.trans (hb.mono HB1.out.size))
  clear hb
  go_wp2_with fail
  refine (HLM.out w2 HB2.out).mono ?_
  rintro e w2' ⟨rfl, rfl⟩
  go_wp2_with fail
  refine (HLC.out w2' HB2.out).mono ?_
  rintro e w2'' ⟨rfl, rfl⟩
  go_wp2_with fail
  refine (HOW.out w2'' HB2.out).mono ?_
  rintro e w3 ⟨ou, Q, rfl, hO, hb⟩
  have HB3' := hid (HB2.out.trans (hb.mono HB2.out.size))
  have HIX := hid (fun W (h : Below w3.heap.size w3 W) => hO.ixs.below h)
  have HKQ := hid ((univ_eq hO.ixs).trans HU0.out.symm)
  obtain ⟨oa, oc, hou, -⟩ := id hO.ixs.es
  subst hou
  have HBW := hid (fun W (h : Below w3.heap.size w3 W) => HB3'.out.trans (h.mono HB3'.out.size))
  have HP1 := hid (fun W a (h : Below w3.heap.size w3 W) (hR : MsAt W a caps) => caps_any caps a A m W (by omega) HZC.out (HS.out _ (HBW.out _ h)) hR)
  have HP2 := hid (fun W a (h : Below w3.heap.size w3 W) (hR : MsAt W a caps) => bad_all Q L caps _ a A m W (by omega) (by omega) HSH.out HZC.out (HS.out _ (HBW.out _ h)) (HIX.out _ h) hR)
  rw [bO_same HKQ.out, bF_same HKQ.out] at HP2
  have HP3 := hid (fun W a b (h : Below w3.heap.size w3 W) (hR : MsAt W a roots) (hC : MsAt W b caps) => to_all Q L roots caps _ a b A m W (by omega) (by omega) (by omega) HSH.out HZC.out (HS.out _ (HBW.out _ h)) (HIX.out _ h) hR hC)
  rw [tX_same HKQ.out, tF_same HKQ.out] at HP3
  have HF1 := hid (fun W y (h : Below w3.heap.size w3 W) (he : ErrAt W A y (chkP caps).1 (chkP caps).2) => faulted2_any A y (chkP caps) W (HN.out _ (HBW.out _ h)) he (chkP_le _))
  have HF2 := hid (fun W y (h : Below w3.heap.size w3 W) (he : ErrAt W A y (bF Q0 L caps).1 (bF Q0 L caps).2) => faulted2_any A y (bF Q0 L caps) W (HN.out _ (HBW.out _ h)) he (bF_le _ _ _))
  have HF3 := hid (fun W y (h : Below w3.heap.size w3 W) (he : ErrAt W A y (tF Q0 L roots caps).1 (tF Q0 L roots caps).2) => faulted2_any A y (tF Q0 L roots caps) W (HN.out _ (HBW.out _ h)) he (tF_le _ _ _ _))
  have hX1 : (bO Q0 L caps).length ≤ 1000000 := Nat.le_trans (bO_len _ _ _) (by omega)
  have HX2 := hid (show (tX Q0 L roots caps).length ≤ 1000000 from Nat.le_trans (tX_len _ _ _ _) (by omega))
  clear hb hO HLO HLM HLC HOW HIN HB1 HB2 HS HN HIX HKQ HU0 HSH HZC HZR
  generalize bO Q0 L caps = X1 at *
  generalize tX Q0 L roots caps = X2 at *
  obtain ⟨f1, hf1⟩ : ∃ f, f = chkP caps := ⟨_, rfl⟩
  rw [← hf1] at HP1 HCF HF1
  obtain ⟨f2, hf2⟩ : ∃ f, f = bF Q0 L caps := ⟨_, rfl⟩
  rw [← hf2] at HP2 HBO HF2
  obtain ⟨f3, hf3⟩ : ∃ f, f = tF Q0 L roots caps := ⟨_, rfl⟩
  rw [← hf3] at HP3 HTO HF3
  clear hf1 hf2 hf3
  obtain ⟨a1, b1⟩ := f1
  obtain ⟨a2, b2⟩ := f2
  obtain ⟨a3, b3⟩ := f3
  unfold faultV at HCF HBO HTO HF1 HF2 HF3
  simp only at HP1 HP2 HP3 HCF HBO HTO HF1 HF2 HF3
  have HB3 := hid (Below.refl w3.heap.size w3)
  go_wp2_with fail
  refine (HOC.out w3 (HBW.out _ HB3.out)).mono ?_
  rintro e w4 ⟨u4, rfl, ho, -, hb⟩
  have HB4 := hid (HB3.out.trans (hb.mono HB3.out.size))
  have HR4 := hid (mr_own ho hb)
  obtain ⟨a4, c4, hu4⟩ := HR4.out.sl
  subst hu4
  clear ho hb
  go_wp2_with fail
  refine (HP1.out w4 _ HB4.out HR4.out.ms).mono ?_
  rintro e w5 ⟨y5, rfl, he, hb⟩
  have HB5 := hid (HB4.out.trans (hb.mono HB4.out.size))
  have HE5 := hid he
  clear he hb HB4 HR4 HP1
  go_wp2_with fail
  refine (HCF.out w5 (HBW.out _ HB5.out)).mono ?_
  rintro e w6 ⟨rfl, hb⟩
  have HB6 := hid (HB5.out.trans (hb.mono HB5.out.size))
  have HE6 := hid (HE5.out.below hb)
  clear hb HB5 HE5 HCF
  go_wp2_with fail
  refine (HF1.out w6 y5 HB6.out HE6.out).mono ?_
  rintro e w7 ⟨rfl, hb⟩
  have HB7 := hid (HB6.out.trans (hb.mono HB6.out.size))
  clear hb HB6 HE6 HF1
  go_wp2_with fail
  refine (HOC.out w7 (HBW.out _ HB7.out)).mono ?_
  rintro e w8 ⟨u8, rfl, ho, -, hb⟩
  have HB8 := hid (HB7.out.trans (hb.mono HB7.out.size))
  have HR8 := hid (mr_own ho hb)
  obtain ⟨a8, c8, hu8⟩ := HR8.out.sl
  subst hu8
  clear ho hb HB7
  go_wp2_with fail
  refine (HP2.out w8 _ HB8.out HR8.out.ms).mono ?_
  rintro e w9 ⟨xa, xc, y9, rfl, hm, he, hb⟩
  have HB9 := hid (HB8.out.trans (hb.mono HB8.out.size))
  have HX9 := hid (bs_bv hm)
  have HE9 := hid he
  clear hm he hb HB8 HR8 HP2
  go_wp2_with fail
  refine (HBO.out w9 (HBW.out _ HB9.out)).mono ?_
  rintro e w10 ⟨wa, wc, rfl, hm, hb⟩
  have HB10 := hid (HB9.out.trans (hb.mono HB9.out.size))
  have HX10 := hid (HX9.out.below hb)
  have HW10 := hid hm
  have HE10 := hid (HE9.out.below hb)
  clear hm hb HB9 HX9 HE9 HBO
  have HA11 := hid ((Below.refl w10.heap.size w10).alloc (Nat.le_refl _) (.cells #[.int .i64 (a2 : Nat), .int .i64 (atOf b2)] 42))
  have HB11 := hid (HB10.out.trans (HA11.out.mono HB10.out.size))
  have HG11 := hid (heap_new w10 (.cells #[.int .i64 (a2 : Nat), .int .i64 (atOf b2)] 42))
  have HX11 := hid (HX10.out.below HA11.out)
  have HW11 := hid (HW10.out.below HA11.out)
  have HE11 := hid (HE10.out.below HA11.out)
  have HSG := hid (show w3.heap.size ≤ w10.heap.size from HB10.out.size)
  generalize hf1 : ((a2 : Nat) : Int) = F1 at *
  generalize atOf b2 = F2 at *
  go_wp2_with fail
  generalize w10.alloc (.cells #[.int .i64 F1, .int .i64 F2] 42) = w11 at *
  generalize w10.heap.size = g at *
  clear HA11 HE10 HW10 HX10 HB10
  refine (HF2.out w11 y9 HB11.out HE11.out).mono ?_
  rintro e w12 ⟨rfl, hb⟩
  have HB12 := hid (HB11.out.trans (hb.mono HB11.out.size))
  have HG12 := hid ((hb.block _ (lt_of_blk HG11.out)).trans HG11.out)
  have HX12 := hid (fun W (h : Below w12.heap.size w12 W) => (HX11.out.below hb).below h)
  have HW12 := hid (fun W (h : Below w12.heap.size w12 W) => (HW11.out.below hb).below h)
  clear hb HE11 HX11 HW11 HG11 HB11 HF2 hf1
  go_wp2_with fail
  go_loopw [13] (fun iv wr => ∃ i : Nat, i ≤ X1.length ∧ iv = .int .i64 i ∧ Hid (Below w12.heap.size w12 wr)) (fun iv _ => X1.length - (intOf iv).toNat)
  case atStart => exact ⟨0, Nat.zero_le _, rfl, hid (Below.refl _ _)⟩
  case round =>
    obtain ⟨i, hi, rfl, HBi⟩ := hrel
    by_cases hlt : i < X1.length
    · have hiI : (i : Int) < (X1.length : Int) := by omega
      have hii : (0 : Int) ≤ (i : Int) := by omega
      have HLI := hid hlt
      obtain ⟨xb, xo, hxa, e1'⟩ := (HX12.out _ HBi.out).cells hlt
      subst hxa
      obtain ⟨wb, wo, hwa, e2'⟩ := (HW12.out _ HBi.out).cells hlt
      subst hwa
      obtain ⟨b, e1, e2⟩ : ∃ b : Bool, wr.cell? ⟨xb, xo + i, none⟩ = some (.bool b) ∧ wr.cell? ⟨wb, wo + i, none⟩ = some (.bool b) := ⟨_, e1', e2'⟩
      clear hlt e1' e2'
      cases b
      all_goals
        go_wp2_with fail
        go_quiet (fail)
        go_wp2_with fail
        go_roundw
        case rel => first | exact ⟨i + 1, HLI.out, nr_idx i, hid (HBi.out.trans ((below_drawn _ _).mono HBi.out.size))⟩ | exact ⟨i + 1, HLI.out, nx_idx HLI.out hX1, hid (HBi.out.trans ((below_drawn _ _).mono HBi.out.size))⟩
        case measure => first | exact nr_meas HLI.out | exact nx_meas HLI.out hX1
    · have hiI : ¬ (i : Int) < (X1.length : Int) := by omega
      have HB13 := hid (HB12.out.trans (HBi.out.mono HB12.out.size))
      have HG13 := hid ((HBi.out.block _ (lt_of_blk HG12.out)).trans HG12.out)
      clear hlt HB12 HG12 HBi HX12 HW12
      go_wp2_with fail
      refine (HOM.out wr (HBW.out _ HB13.out)).mono ?_
      rintro e w14 ⟨u14, rfl, ho, -, hb⟩
      have HB14 := hid (HB13.out.trans (hb.mono HB13.out.size))
      have HG14 := hid ((hb.block _ (lt_of_blk HG13.out)).trans HG13.out)
      have HR14 := hid (mr_own ho hb)
      obtain ⟨a14, c14, hu14⟩ := HR14.out.sl
      subst hu14
      clear ho hb HB13 HG13
      go_wp2_with fail
      refine (HOC.out w14 (HBW.out _ HB14.out)).mono ?_
      rintro e w15 ⟨u15, rfl, ho, -, hb⟩
      have HB15 := hid (HB14.out.trans (hb.mono HB14.out.size))
      have HG15 := hid ((hb.block _ (lt_of_blk HG14.out)).trans HG14.out)
      have HR15 := hid (mr_own ho hb)
      have HQ15 := hid (HR14.out.ms.below hb)
      obtain ⟨a15, c15, hu15⟩ := HR15.out.sl
      subst hu15
      clear ho hb HB14 HG14 HR14
      go_wp2_with fail
      refine (HP3.out w15 _ _ HB15.out HQ15.out HR15.out.ms).mono ?_
      rintro e w16 ⟨ya, yc, y16, rfl, hm, he⟩
      have HB16 := hid (HB15.out.trans (hm.1.mono HB15.out.size))
      have HG16 := hid ((hm.1.block _ (lt_of_blk HG15.out)).trans HG15.out)
      have HM16 := hid hm.ms
      have HE16 := hid he
      clear hm he HB15 HG15 HR15 HQ15 HP3
      go_wp2_with fail
      refine (HTO.out w16 (HBW.out _ HB16.out)).mono ?_
      rintro e w17 ⟨za, zc, rfl, hm, hb⟩
      have HB17 := hid (HB16.out.trans (hb.mono HB16.out.size))
      have HG17 := hid ((hb.block _ (lt_of_blk HG16.out)).trans HG16.out)
      have HM17 := hid (HM16.out.below hb)
      have HZ17 := hid hm
      have HE17 := hid (HE16.out.below hb)
      clear hm hb HB16 HG16 HM16 HE16 HTO
      obtain ⟨q0, q1, qf⟩ := box_two HG17.out
      have HB18 := hid (put2_below (x := .int .i64 ((a3 : Nat) : Int)) (y := .int .i64 (atOf b3)) HB17.out HSG.out)
      have HG18 := hid (box_put2D (.int .i64 ((a3 : Nat) : Int)) (.int .i64 (atOf b3)) HG17.out)
      have HE18 := hid (HE17.out.set2D HG17.out (.int .i64 ((a3 : Nat) : Int)) (.int .i64 (atOf b3)))
      have HM18 := hid (ms_put2D (x := .int .i64 ((a3 : Nat) : Int)) (y := .int .i64 (atOf b3)) HM17.out HG17.out)
      have HZ18 := hid (ms_put2D (x := .int .i64 ((a3 : Nat) : Int)) (y := .int .i64 (atOf b3)) HZ17.out HG17.out)
      go_wp2_with fail
      generalize (w17.setCell ⟨g, 0, none⟩ (.int .i64 ((a3 : Nat) : Int))).setCell ⟨g, 1, none⟩ (.int .i64 (atOf b3)) = w18 at *
      clear HB17 HG17 HM17 HZ17 HE17 q0 q1 qf
      generalize hf : ((a3 : Nat) : Int) = G1 at *
      generalize atOf b3 = G2 at *
      refine (HF3.out w18 y16 HB18.out HE18.out).mono ?_
      rintro e w19 ⟨rfl, hb⟩
      have HB19 := hid (HB18.out.trans (hb.mono HB18.out.size))
      have HSA := hid (sameM_any X2 _ _ w19 HX2.out (HM18.out.below hb) (HZ18.out.below hb))
      clear hb HB18 HG18 HM18 HZ18 HE18 HF3 hf
      go_wp2_with fail
      refine HSA.out.mono ?_
      rintro e w20 ⟨rfl, hb⟩
      have HBe := hid (HBW.out _ (HB19.out.trans (hb.mono HB19.out.size)))
      clear hb
      go_wp2_with fail
      go_ret
      exact ⟨rfl, HBe.out⟩
end Ve
end Go.Proofs.YtjhiajeeijfkeaaGreatDoor
