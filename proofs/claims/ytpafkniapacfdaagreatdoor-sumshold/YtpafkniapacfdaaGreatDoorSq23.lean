
import Derived.Test.YtpafkniapacfdaaGreatDoorSq21
import Derived.Test.YtpafkniapacfdaaGreatDoorSq3
import Derived.Test.YtpafkniapacfdaaGreatDoorSq16
import Derived.Test.YtpafkniapacfdaaGreatDoorSq19
import Derived.Test.YtpafkniapacfdaaGreatDoorSq20
import Derived.Test.YtpafkniapacfdaaGreatDoorSq22
import Derived.Lib.SliceRun
import Derived.Deep.SlicePairs
import Derived.Lib.SmallJoins
import Derived.SliceStrings
namespace Go.Proofs.YtpafkniapacfdaaGreatDoor
open Go.RowKit
namespace Ve
def Rg (w : World) : Prop := ∃ te pe, w.cell? ⟨14, 0, none⟩ = some (.iface te pe)
theorem Rg.below {w w' : World} (h : Rg w) (hb : Below w.heap.size w w') : Rg w' := by
  obtain ⟨te, pe, h⟩ := h
  exact ⟨te, pe, cell_below hb h⟩
theorem pM_ok : ∀ (l : List UInt8) (acc : Nat), l.all dig = true → valTo acc l ≤ 4294967295 → Lib.parseUintM 4294967295 acc l = .ok (valTo acc l).toNat
  | [], acc, _, _ => by simp [Lib.parseUintM, valTo]
  | c :: r, acc, hd, h => by
    rw [List.all_cons, Bool.and_eq_true] at hd
    have hc := dig_bd hd.1
    have e : valTo acc (c :: r) = valTo ((acc * 10 + (c.toNat - 48) : Nat) : Int) r := by
      show valTo (10 * (acc : Int) + ((c.toNat : Int) - 48)) r = _
      congr 1; omega
    rw [e] at h ⊢
    have hb := (valTo_bd r ((acc * 10 + (c.toNat - 48) : Nat) : Int) hd.2 (by omega)).1
    have h1 : (1 : Int) ≤ 10 ^ r.length := by
      have : (0 : Int) < 10 ^ r.length := Int.pow_pos (by omega)
      omega
    have h2 : ((acc * 10 + (c.toNat - 48) : Nat) : Int) * 1 ≤ ((acc * 10 + (c.toNat - 48) : Nat) : Int) * 10 ^ r.length := Int.mul_le_mul_of_nonneg_left h1 (by omega)
    unfold Lib.parseUintM
    rw [if_pos ⟨by omega, by omega⟩, if_neg (by omega), if_neg (by omega)]
    exact pM_ok r _ hd.2 h
theorem pM_range : ∀ (l : List UInt8) (acc : Nat), l.all dig = true → acc ≤ 4294967295 → ¬ valTo acc l ≤ 4294967295 → Lib.parseUintM 4294967295 acc l = .range
  | [], acc, _, ha, h => by simp [valTo] at h; omega
  | c :: r, acc, hd, ha, h => by
    rw [List.all_cons, Bool.and_eq_true] at hd
    have hc := dig_bd hd.1
    have e : valTo acc (c :: r) = valTo ((acc * 10 + (c.toNat - 48) : Nat) : Int) r := by
      show valTo (10 * (acc : Int) + ((c.toNat : Int) - 48)) r = _
      congr 1; omega
    rw [e] at h
    unfold Lib.parseUintM
    rw [if_pos ⟨by omega, by omega⟩, if_neg (by omega)]
    by_cases h3 : 4294967295 < acc * 10 + (c.toNat - 48)
    · rw [if_pos h3]
    · rw [if_neg h3]
      exact pM_range r _ hd.2 (by omega) h
theorem pB_ok {l : List UInt8} (hd : digs l = true) (h : valTo 0 l ≤ 4294967295) : Lib.parseUintB 32 l = .ok (valTo 0 l).toNat := by
  unfold digs at hd
  rw [Bool.and_eq_true] at hd
  have hne : l ≠ [] := fun e => by rw [e] at hd; simp at hd
  unfold Lib.parseUintB
  rw [if_neg hne]
  exact pM_ok l 0 hd.2 h
theorem pB_range {l : List UInt8} (hd : digs l = true) (h : ¬ valTo 0 l ≤ 4294967295) : Lib.parseUintB 32 l = .range := by
  unfold digs at hd
  rw [Bool.and_eq_true] at hd
  have hne : l ≠ [] := fun e => by rw [e] at hd; simp at hd
  unfold Lib.parseUintB
  rw [if_neg hne]
  exact pM_range l 0 hd.2 (by omega) h
set_option maxHeartbeats 1000000 in
theorem rsum_any (s : ByteArray) (A : Nat → Addr) (m : Int) (w : World) (hs : s.size < 4294967281) (S : Te w A m) (R : Rg w) :
    Calls Tryz.prog 79 #[.string s] w fun e w' => e = .returned (.tuple #[.int .u32 ((rdS s.data.toList).2 : Nat), errA A (rdS s.data.toList).1]) ∧ Below w.heap.size w w' := by
  have HC := hid (numeral_any s w (by unfold maxLen; omega))
  have g0 := S.sen.g0
  have g1 := S.sen.g1
  obtain ⟨te, pe, HRG⟩ := R
  have HRG := hid HRG
  have HLN := hid (len_eq s)
  cases hd : (digs s.data.toList && !zero s.data.toList)
  · have HR := hid (show rdS s.data.toList = (1, 0) by
      unfold rdS
      rw [if_neg (fun h => by rw [h.1, h.2.1] at hd; cases hd)])
    rw [hd] at HC
    clear hd S
    go_enter Tryz.func79, Tryz.ntmps79
    go_wp2_with fail
    refine HC.out.mono ?_
    rintro e w' ⟨rfl, rfl⟩
    go_wp2_with fail
    go_quiet (fail)
    go_wp2_with fail
    go_ret2
    exact ⟨by rw [HR.out]; rfl, below_drawn _ _⟩
  · rw [hd] at HC
    rw [Bool.and_eq_true] at hd
    have hz : zero s.data.toList = false := by simpa using hd.2
    by_cases hl : s.size ≤ 10
    · by_cases hv : valTo 0 s.data.toList ≤ 4294967295
      · have HR := hid (show rdS s.data.toList = (0, (valTo 0 s.data.toList).toNat) by
          unfold rdS
          rw [if_pos ⟨hd.1, hz, by rw [len_eq]; exact hl⟩, if_pos hv])
        have HP := hid (Tryz.strconv_ParseUint_10_at32_ok s (by omega) _ (pB_ok hd.1 hv) w)
        have hu : (valTo 0 s.data.toList).toNat ≤ 4294967295 := by omega
        have hwr : ((valTo 0 s.data.toList).toNat : Int) % 4294967296 = ((valTo 0 s.data.toList).toNat : Int) := by omega
        clear hd hz hv S
        generalize (valTo 0 s.data.toList).toNat = u at *
        have hlI : ¬ (10 : Int) < (s.size : Int) := by omega
        go_enter Tryz.func79, Tryz.ntmps79
        go_wp2_with fail
        refine HC.out.mono ?_
        rintro e w' ⟨rfl, rfl⟩
        go_wp2_with fail
        refine HP.out.mono ?_
        rintro e w1 ⟨rfl, hw⟩
        have HB := hid (show Below w'.heap.size w' w1 by
          rcases hw with rfl | rfl
          · exact Below.refl _ _
          · exact Lib.bytesWorld_below ..)
        clear hw
        go_wp2_with fail
        go_ret2
        exact ⟨by rw [HR.out]; rfl, HB.out⟩
      · have HR := hid (show rdS s.data.toList = (2, 0) by
          unfold rdS
          rw [if_pos ⟨hd.1, hz, by rw [len_eq]; exact hl⟩, if_neg hv])
        have HP := hid (Tryz.strconv_ParseUint_10_at32_range s (by omega) (pB_range hd.1 hv) _ w HRG.out (Or.inr ⟨te, pe, rfl⟩))
        clear hd hz hv S
        have hlI : ¬ (10 : Int) < (s.size : Int) := by omega
        go_enter Tryz.func79, Tryz.ntmps79
        go_wp2_with fail
        refine HC.out.mono ?_
        rintro e w' ⟨rfl, rfl⟩
        go_wp2_with fail
        refine HP.out.mono ?_
        rintro e w1 ⟨N, rfl, _, _, hb⟩
        have HB := hid hb
        have s1 := cell_below HB.out g1
        clear hb
        go_wp2_with fail
        go_quiet (fail)
        go_wp2_with fail
        go_ret2
        exact ⟨by rw [HR.out]; rfl, below_drawn_of HB.out _⟩
    · have HR := hid (show rdS s.data.toList = (1, 0) by
        unfold rdS
        rw [if_neg (fun h => hl (by rw [← len_eq]; exact h.2.2))])
      clear hd hz S
      have hlI : (10 : Int) < (s.size : Int) := by omega
      go_enter Tryz.func79, Tryz.ntmps79
      go_wp2_with fail
      refine HC.out.mono ?_
      rintro e w' ⟨rfl, rfl⟩
      go_wp2_with fail
      go_quiet (fail)
      go_wp2_with fail
      go_ret2
      exact ⟨by rw [HR.out]; rfl, below_drawn _ _⟩
end Ve
end Go.Proofs.YtpafkniapacfdaaGreatDoor


namespace Go.Proofs.YtpafkniapacfdaaGreatDoor
open Go.RowKit Go.Maps
namespace Ve
structure Wk (w0 W : World) (bb ob mb : Nat) (T : By) : Prop where
  bl : Below w0.heap.size w0 W
  sz : szT T
  b1 : w0.heap.size ≤ bb
  b2 : w0.heap.size ≤ ob
  b3 : w0.heap.size ≤ mb
  bc : W.heap[bb]? = some (.cells #[.map (some mb)] 148 (0, 0))
  mp : ByAt W mb T
  oc : ∃ ov, W.heap[ob]? = some (.cells #[ov] 23 (0, 0)) ∧ W.ownsRow w0.heap.size 42 2 ov T.length (flatM (whoT T))
theorem Wk.below {w0 W W' : World} {bb ob mb : Nat} {T : By} (h : Wk w0 W bb ob mb T) (hb : Below W.heap.size W W') : Wk w0 W' bb ob mb T := by
  obtain ⟨ov, h1, h2⟩ := h.oc
  exact ⟨h.bl.trans (hb.mono h.bl.size), h.sz, h.b1, h.b2, h.b3, (hb.block _ (lt_of_blk h.bc)).trans h.bc, h.mp.below hb, ov, (hb.block _ (lt_of_blk h1)).trans h1, owns_below h2 hb⟩
theorem flatM_who (T : By) (m f : Bm) : flatM (whoT (T ++ [(m, f)])) = flatM (whoT T) ++ [.string m.1, .string m.2] := by
  rw [whoT_app, flatM_app]; simp [flatM]
theorem ByAt.block {w : World} {b : Nat} {T : By} (h : ByAt w b T) : ∃ es clock, w.heap[b]? = some (.map es clock) := by
  obtain ⟨es, clock, h1, _⟩ := h
  exact ⟨es, clock, h1⟩
theorem ByAt.ne {w : World} {b g : Nat} {T : By} {cs : Array Value} {t : TypeId} {fr : Nat × Nat} (h : ByAt w b T) (hg : w.heap[g]? = some (.cells cs t fr)) : g ≠ b := fun e => by
  obtain ⟨es, clock, h1⟩ := h.block
  subst e
  rw [h1] at hg
  cases hg
theorem ByAt.far {w w2 : World} {b B n : Nat} {T : By} {v : Value} {e : TypeId} {xs : List Value} (h : ByAt w b T) (hg : w.grownBy w2 (some b)) (ho : w.ownsRow B e 2 v n xs) : w2.ownsRow B e 2 v n xs :=
  owns_far ho hg fun g hv => by
    obtain ⟨hl, ⟨h1, _⟩ | ⟨g', cap, cur, e1, e2, e3, _⟩⟩ := ho
    · rw [h1] at hv; cases hv
    · rw [e1] at hv
      have : g' = g := by simpa [Value.ownBlock] using hv
      subst this
      intro e
      exact h.ne e3 (by simpa using e.symm)
theorem Wk.more {w0 w1 w2 w3 : World} {bb ob mb : Nat} {T : By} {m f : Bm} {ov v' : Value} {o : Obj} (h : Wk w0 w1 bb ob mb T) (hm : m.1.size ≤ maxLen ∧ m.2.size ≤ maxLen) (o1 : w1.heap[ob]? = some (.cells #[ov] 23 (0, 0))) (o2 : w1.ownsRow w0.heap.size 42 2 ov T.length (flatM (whoT T)))
    (hown : w2.ownsMap Tryz.prog 42 rB mb (T.length + 1) ((datB T).put (kL m) (.held f))) (hg : w1.grownBy w2 (some mb)) (hown3 : w3.ownsRow w0.heap.size 42 2 v' (T.length + 1) (flatM (whoT T) ++ [.string m.1, .string m.2])) (hg3 : (w2.alloc o).grownBy w3 ov.ownBlock) :
    Wk w0 (w3.setCell ⟨ob, 0, none⟩ v') bb ob mb (T ++ [(m, f)]) := by
  have hs1 := h.bl.size
  have l1 := lt_of_blk h.bc
  have l2 := lt_of_blk o1
  obtain ⟨es, clock, hm1⟩ := ByAt.block h.mp
  have l3 := lt_of_blk hm1
  have n1 : bb ≠ mb := h.mp.ne h.bc
  have n2 : ob ≠ mb := h.mp.ne o1
  have n3 : bb ≠ ob := fun e => by
    subst e
    have := h.bc.symm.trans o1
    simp at this
  have o2' := h.mp.far hg o2
  have r1 : ov.ownBlock ≠ some bb := own_ne2 o2 h.bc (by decide)
  have r2 : ov.ownBlock ≠ some ob := own_ne2 o2 o1 (by decide)
  have r3 : ov.ownBlock ≠ some mb := fun e => by
    obtain ⟨hl, ⟨h1, _⟩ | ⟨g', cap, cur, e1, e2, e3, _⟩⟩ := o2
    · rw [h1] at e; cases e
    · rw [e1] at e
      have : g' = mb := by simpa [Value.ownBlock] using e
      exact h.mp.ne e3 this
  have sz2 := hg.size
  have step : ∀ b, b < w1.heap.size → b ≠ mb → ov.ownBlock ≠ some b → w3.heap[b]? = w1.heap[b]? := fun b hb hne hr => by
    rw [hg3.block b (by simp; omega) (fun e => hr e.symm), ((Below.refl w2.heap.size w2).alloc (Nat.le_refl _) o).block b (by omega), hg.block b hb (by simp [hne])]
  have q1 := (step bb l1 n1 r1).trans h.bc
  have q2 := (step ob l2 n2 r2).trans o1
  have q3 : w3.heap[mb]? = w2.heap[mb]? := by
    rw [hg3.block mb (by simp; omega) (fun e => r3 e.symm), ((Below.refl w2.heap.size w2).alloc (Nat.le_refl _) o).block mb (by omega)]
  have b2 : Below w0.heap.size w0 w2 := h.bl.grown hg hs1 (fun k hk => by cases hk; exact h.b3)
  have b3 : Below w0.heap.size w0 w3 := (b2.alloc b2.size o).grown hg3 (by simp; have := b2.size; omega) (fun k hk => (o2.lt k hk).1)
  refine ⟨b3.setCell (p := ⟨ob, 0, none⟩) h.b2 v', ?_, h.b1, h.b2, h.b3, keep_set q1 n3, ?_, v', ?_, ?_⟩
  · intro x hx
    rcases List.mem_append.1 hx with hx | hx
    · exact h.sz x hx
    · simp at hx; subst hx; exact hm
  · unfold ByAt
    rw [datB_app, List.length_append]
    obtain ⟨es2, clock2, h1, F, hs, hD⟩ := hown
    exact ⟨es2, clock2, by rw [Below.heap_setCell _ _ _ _ (Ne.symm n2), q3]; exact h1, F, hs, hD⟩
  · have := set_block (o := 0) (x := v') q2
    simpa using this
  · rw [flatM_who, List.length_append]
    exact owns_set hown3 (own_ne2 hown3 q2 (by decide))
set_option maxRecDepth 100000 in
set_option maxHeartbeats 2000000 in
theorem come_any (w0 W : World) (bb ob mb : Nat) (T : By) (m f : Bm) (hm : m.1.size ≤ maxLen ∧ m.2.size ≤ maxLen) (hl : T.length ≤ 1000) (h : Wk w0 W bb ob mb T) :
    Calls Tryz.prog 128 #[.agg #[.string m.1, .string m.2], .agg #[.string f.1, .string f.2], .pointer (some ⟨bb, 0, none⟩), .pointer (some ⟨ob, 0, none⟩)] W fun e w' => e = .returned (.tuple #[]) ∧ Wk w0 w' bb ob mb (comeT T m f) := by
  obtain ⟨i0, hi0, hz0, hz1, hz2⟩ := info_parts infoMod
  have HBa := hid (((Below.refl W.heap.size W).alloc (Nat.le_refl _) (.cells #[.string m.1, .string m.2] 42)).alloc (by simp) (.cells #[.string f.1, .string f.2] 42))
  have HW := hid (h.below HBa.out)
  have HC := hid (came_any mb T m _ hm HW.out.sz HW.out.mp)
  have c0 : ((W.alloc (.cells #[.string m.1, .string m.2] 42)).alloc (.cells #[.string f.1, .string f.2] 42)).cell? ⟨bb, 0, none⟩ = some (.map (some mb)) := by rw [Lib.cell_of_heap HW.out.bc]; rfl
  have HM := hid hm
  clear h hm
  go_enter Tryz.func128, Tryz.ntmps128
  go_wp2_with fail
  refine HC.out.mono ?_
  rintro e w1 ⟨rfl, hb⟩
  have HW1 := hid (HW.out.below hb)
  have e0 : w1.heap[W.heap.size]? = some (.cells #[.string m.1, .string m.2] 42 (0, 0)) := by
    rw [hb.block _ (by simp; omega)]; exact heap_old _ _ (heap_new W _)
  have e1 : w1.heap[W.heap.size + 1]? = some (.cells #[.string f.1, .string f.2] 42 (0, 0)) := by
    rw [hb.block _ (by simp)]
    have := heap_new (W.alloc (.cells #[.string m.1, .string m.2] 42)) (.cells #[.string f.1, .string f.2] 42)
    rw [show (W.alloc (.cells #[.string m.1, .string m.2] 42)).heap.size = W.heap.size + 1 by simp] at this
    exact this
  clear hb
  cases hc : cameB T m with
  | true =>
    go_wp2_with fail
    go_end0
    exact ⟨rfl, by rw [come_yes hc]; exact HW1.out⟩
  | false =>
    have HCN := hid hc
    obtain ⟨ov, o1, o2⟩ := HW1.out.oc
    have HO1 := hid o1
    have HO2 := hid o2
    have k0 : w1.cell? ⟨bb, 0, none⟩ = some (.map (some mb)) := by rw [Lib.cell_of_heap HW1.out.bc]; rfl
    have k1 : w1.cell? ⟨W.heap.size, 0, none⟩ = some (.string m.1) := by rw [Lib.cell_of_heap e0]; rfl
    have k2 : w1.cell? ⟨W.heap.size, 1, none⟩ = some (.string m.2) := by rw [Lib.cell_of_heap e0]; rfl
    have k3 : w1.cell? ⟨W.heap.size + 1, 0, none⟩ = some (.string f.1) := by rw [Lib.cell_of_heap e1]; rfl
    have k4 : w1.cell? ⟨W.heap.size + 1, 1, none⟩ = some (.string f.2) := by rw [Lib.cell_of_heap e1]; rfl
    have HE0 := hid e0
    clear o1 o2 e0 e1 hc c0
    go_wp2_with (at_mapUpdate; refine wpList_mapUpdate_own _ rfl _ _ _ 148 rfl 42 42 modKey Tryz.underlying148 rB mb T.length (datB T) rfl HW1.out.mp (by unfold maxLen; omega) (modV m) (modV f) (kL m) rfl rfl (keyOf_mod m HM.out.1 HM.out.2) (.held f) [] (rB_mod f) ?_)
    intro w2 hown hgrow
    have HOWN := hid hown
    have HGR := hid hgrow
    have n1 := HW1.out.mp.ne HE0.out
    have n2 := HW1.out.mp.ne HO1.out
    have j0 : w2.heap[W.heap.size]? = some (.cells #[.string m.1, .string m.2] 42 (0, 0)) := (hgrow.block _ (lt_of_blk HE0.out) (by simp [n1])).trans HE0.out
    have j1 : w2.heap[ob]? = some (.cells #[ov] 23 (0, 0)) := (hgrow.block _ (lt_of_blk HO1.out) (by simp [n2])).trans HO1.out
    have HOV := hid (HW1.out.mp.far hgrow HO2.out)
    obtain ⟨oa, oc, hov⟩ := own_slN HO2.out
    subst hov
    have i1 : w2.cell? ⟨W.heap.size, 0, none⟩ = some (.string m.1) := by rw [Lib.cell_of_heap j0]; rfl
    have i2 : w2.cell? ⟨W.heap.size, 1, none⟩ = some (.string m.2) := by rw [Lib.cell_of_heap j0]; rfl
    have i3 : w2.cell? ⟨ob, 0, none⟩ = some (.slice oa T.length oc) := by rw [Lib.cell_of_heap j1]; rfl
    have HJ1 := hid j1
    have HNE := hid (own_ne2 HOV.out j1 (by decide))
    have hsz := HW1.out.bl.size
    have hsz2 := hgrow.size
    clear hown hgrow j0 j1 k0 k1 k2 k3 k4 n1 n2
    go_wp2_with (at_builtin; refine wpList_append_own _ rfl _ _ 23 rfl w0.heap.size 42 i0 _ 2 32 Tryz.underlying23 hi0 hz0 hz1 hz2 rfl (by decide) _ _ _ rfl (HOV.out.alloc _) ⟨w2.heap.size, 0, none⟩ 1 1 [.string m.1, .string m.2] rfl rfl ?c1 ?c2 ?c3 ?c4 ?c5 ?_)
    case c1 => exact World.news_of_block (cs := #[.string m.1, .string m.2]) (t := 42) (fr := (0, 0)) (heap_alloc_new w2 _)
    case c2 =>
      intro u hu
      simp at hu
      rcases hu with rfl | rfl <;> rfl
    case c3 => unfold maxLen; omega
    case c4 => omega
    case c5 => simp; omega
    intro v' w3 hown3 hgrow3 _
    have HF := hid (HW1.out.more HM.out HO1.out HO2.out HOWN.out HGR.out hown3 hgrow3)
    have q2 : w3.heap[ob]? = some (.cells #[.slice oa T.length oc] 23 (0, 0)) := by
      rw [hgrow3.block ob (by have := lt_of_blk HJ1.out; simp; omega) (fun e => HNE.out e.symm), ((Below.refl w2.heap.size w2).alloc (Nat.le_refl _) _).block ob (lt_of_blk HJ1.out)]
      exact HJ1.out
    have i4 : w3.cell? ⟨ob, 0, none⟩ = some (.slice oa T.length oc) := by rw [Lib.cell_of_heap q2]; rfl
    have i5 : w3.frozen? ⟨ob, 0, none⟩ = false := by simp [World.frozen?, q2]
    obtain ⟨va, vc, hv⟩ := own_slN hown3
    subst hv
    clear hown3 hgrow3 q2 i1 i2 i3
    go_wp2_with fail
    go_end0
    exact ⟨rfl, by rw [come_no HCN.out]; exact HF.out⟩
end Ve
end Go.Proofs.YtpafkniapacfdaaGreatDoor


namespace Go.Proofs.YtpafkniapacfdaaGreatDoor
open Go.RowKit
namespace Ve
end Ve
end Go.Proofs.YtpafkniapacfdaaGreatDoor


namespace Go.Proofs.YtpafkniapacfdaaGreatDoor
open Go.RowKit
namespace Ve
theorem Rw.cell {w0 W : World} {g : Nat} {D : List Rc} (h : Rw w0 W g D) (j : Nat) (hj : j < D.length) (c : Nat) (hc : c < 4) : W.cell? ⟨g, j * 4 + c, none⟩ = (rcells D[j])[c]? := by
  match c, hc with
  | 0, _ => exact h.c0 j hj
  | 1, _ => exact h.c1 j hj
  | 2, _ => exact h.c2 j hj
  | 3, _ => exact h.c3 j hj
end Ve
end Go.Proofs.YtpafkniapacfdaaGreatDoor


namespace Go.Proofs.YtpafkniapacfdaaGreatDoor
open Go.ChangeShapes Go.WideShapes Go.ChangeAt Go.RowKit Go.ChangeMaps Go.Joins
namespace Ve
theorem oCellsMod : Tryz.prog.cellsOf 42 = 2 := by kernel_rfl
theorem oCellsStr : Tryz.prog.cellsOf 9 = 1 := by kernel_rfl
theorem oCellsEnt : Tryz.prog.cellsOf 55 = 5 := by kernel_rfl
theorem oCellsMods : Tryz.prog.cellsOf 23 = 1 := by kernel_rfl
theorem oCellsSstr : Tryz.prog.cellsOf 53 = 1 := by kernel_rfl
theorem oCellsBool : Tryz.prog.cellsOf 4 = 1 := by kernel_rfl
def strOf : Value → ByteArray
  | .string s => s
  | _ => ⟨#[]⟩
set_option maxRecDepth 100000 in
theorem open_ms {H : Type} {enc : TypeId × Value → H} {w : World} {base fuel : Nat} {held : Bool} {v : Value} {x : DataW H × List MemPlace}
    (h : DataW.trod enc Tryz.prog w base (fun _ => true) held fuel 23 [v] = some x) : ∃ L, MsAt w v L ∧ Em v L := by
  rcases Go.Deep.open_slice_pairs Tryz.underlying23 Tryz.underlying42 oCellsMod rfl rfl oCellsStr oCellsStr h with ⟨hcs, _⟩ | ⟨a, len, cap, m, n, V0, V1, D0, D1, P0, P1, hcs, _, hl, _, hm, _, hx⟩
  · simp only [List.cons.injEq, and_true] at hcs
    subst hcs
    exact ⟨[], ⟨none, 0, rfl, Nat.le_refl _, fun h => absurd rfl h⟩, fun a c e _ => Or.inl e.symm⟩
  · simp only [List.cons.injEq, and_true] at hcs
    subst hcs
    simp only [if_true] at hm
    subst hm
    have hlen : ((List.range len).map fun i => (strOf (V0 i), strOf (V1 i))).length = len := by simp
    refine ⟨(List.range len).map fun i => (strOf (V0 i), strOf (V1 i)), ⟨some a, m, by rw [hlen], by rw [hlen]; exact hl, fun hne => ?_⟩, fun a' c e h0 => ?_⟩
    · have h0l : 0 < len := by rw [← hlen]; exact List.length_pos_iff.2 hne
      obtain ⟨b, off, spot⟩ := a
      have hspot : spot = none := by simpa [Addr.add] using World.cell?_spot (hx 0 (by omega)).1
      subst hspot
      refine ⟨b, off, rfl, fun j hj => ?_⟩
      have hj2 : j < len := by rw [← hlen]; exact hj
      obtain ⟨g0, g1, t0, t1⟩ := hx j (by omega)
      obtain ⟨s0, e0, _, _⟩ := DataW.trod_string Tryz.underlying9 t0
      obtain ⟨s1, e1, _, _⟩ := DataW.trod_string Tryz.underlying9 t1
      simp only [List.cons.injEq, and_true] at e0 e1
      rw [e0] at g0
      rw [e1] at g1
      simp only [List.getElem_map, List.getElem_range, e0, e1]
      rw [Addr.add_lit] at g0 g1
      exact ⟨g0, g1⟩
    · have hz : len = 0 := by rw [← hlen, h0]; rfl
      rw [hlen] at e
      subst hz
      right
      injection e with e1 e2 e3
      exact ⟨a, by rw [← e1]⟩
set_option maxRecDepth 100000 in
theorem open_tx {H : Type} {enc : TypeId × Value → H} {w : World} {base fuel : Nat} {held : Bool} {v : Value} {x : DataW H × List MemPlace}
    (h : DataW.trod enc Tryz.prog w base (fun _ => true) held fuel 53 [v] = some x) : ∃ X, TxAt w v X ∧ EmT v X := by
  rcases open_strings Tryz.underlying53 Tryz.underlying9 oCellsStr h with ⟨hcs, _⟩ | ⟨a, len, cap, ss, hcs, _, hl, _, hm, _, hx, _⟩
  · simp only [List.cons.injEq, and_true] at hcs
    subst hcs
    exact ⟨[], ⟨none, 0, rfl, Nat.le_refl _, fun h => absurd rfl h⟩, fun a c e _ => Or.inl e.symm⟩
  · simp only [List.cons.injEq, and_true] at hcs
    subst hcs
    simp only [if_true] at hm
    have hlen : (ss.take len).length = len := by rw [List.length_take]; omega
    refine ⟨ss.take len, ⟨some a, cap, by rw [hlen], by rw [hlen]; exact hl, fun hne => ?_⟩, fun a' c e h0 => ?_⟩
    · have h0l : 0 < len := by rw [← hlen]; exact List.length_pos_iff.2 hne
      obtain ⟨b, off, spot⟩ := a
      have hspot : spot = none := by simpa [Addr.add] using World.cell?_spot (hx 0 (by omega))
      subst hspot
      refine ⟨b, off, rfl, fun j hj => ?_⟩
      have hj2 : j < len := by rw [← hlen]; exact hj
      have g := hx j (by omega)
      rw [Addr.add_lit, List.getD_eq_getElem?_getD, List.getElem?_eq_getElem (by omega)] at g
      rw [List.getElem_take]
      exact g
    · have hz : len = 0 := by rw [← hlen, h0]; rfl
      rw [hlen] at e
      subst hz
      right
      injection e with e1 e2 e3
      exact ⟨a, by rw [← e1]⟩
set_option maxRecDepth 100000 in
theorem open_ent {H : Type} {enc : TypeId × Value → H} {w : World} {base fuel : Nat} {held : Bool} {cs : List Value} {x : DataW H × List MemPlace}
    (h : DataW.trod enc Tryz.prog w base (fun _ => true) held fuel 55 cs = some x) : ∃ (r : Raw) (e : Ent), cs = rowR r ∧ slR r ∧ RawOk w r e ∧ Em r.2.1 e.2.1 ∧ EmT r.2.2.1 e.2.2.1 := by
  obtain ⟨y0, y1, y2, y3, n, _, hl, h0, h1, h2, h3⟩ := trod_struct4 Tryz.underlying55 h
  rw [oCellsEnt] at hl
  match cs, hl with
  | [c0, c1, c2, c3, c4], _ =>
    simp only [oCellsMod, oCellsMods, oCellsSstr, oCellsBool, List.drop, List.take] at h0 h1 h2 h3
    obtain ⟨z0, z1, n2, _, _, k0, k1⟩ := trod_struct2 Tryz.underlying42 h0
    simp only [oCellsStr, List.drop, List.take] at k0 k1
    obtain ⟨s0, e0, _, _⟩ := DataW.trod_string Tryz.underlying9 k0
    obtain ⟨s1, e1, _, _⟩ := DataW.trod_string Tryz.underlying9 k1
    obtain ⟨R, hR, hER⟩ := open_ms h1
    obtain ⟨X, hX, hEX⟩ := open_tx h2
    obtain ⟨b, e4, _⟩ := DataW.trod_bool Tryz.underlying4 h3
    simp only [List.cons.injEq, and_true] at e0 e1 e4
    subst e0 e1 e4
    refine ⟨((s0, s1), c2, c3, b), ((s0, s1), R, X, b), rfl, ⟨?_, ?_⟩, ⟨rfl, hR, hX, rfl⟩, hER, hEX⟩
    · obtain ⟨a, c, e, _⟩ := hR; exact ⟨_, _, _, e⟩
    · obtain ⟨a, c, e, _⟩ := hX; exact ⟨_, _, _, e⟩
set_option maxRecDepth 100000 in
theorem open_ix {H : Type} {enc : TypeId × Value → H} {w : World} {base fuel : Nat} {held : Bool} {v : Value} {x : DataW H × List MemPlace}
    (h : DataW.trod enc Tryz.prog w base (fun _ => true) held fuel 22 [v] = some x) : ∃ Q L, Ixs w v Q L ∧ EmI Q L := by
  rcases Go.Deep.open_slice Tryz.underlying22 h with ⟨hcs, _⟩ | ⟨a, len, cap, m, n, D, Pl, hcs, _, hl, _, hm, _, hx⟩
  · simp only [List.cons.injEq, and_true] at hcs
    subst hcs
    exact ⟨[], [], ⟨⟨none, 0, rfl, Nat.le_refl _, fun r hr => (by cases hr), fun h => absurd rfl h⟩, rfl, fun j h1 => absurd h1 (Nat.not_lt_zero _)⟩, fun j h1 => absurd h1 (Nat.not_lt_zero _)⟩
  · simp only [List.cons.injEq, and_true] at hcs
    subst hcs
    simp only [if_true] at hm
    subst hm
    have each : ∀ i, i < len → ∃ q : Raw × Ent, (∀ c (hc : c < 5), w.cell? (a.add (i * 5 + c)) = (rowR q.1)[c]?) ∧ slR q.1 ∧ RawOk w q.1 q.2 ∧ Em q.1.2.1 q.2.2.1 ∧ EmT q.1.2.2.1 q.2.2.2.1 := fun i hi => by
      obtain ⟨cs', h1, h2⟩ := hx i (by omega)
      obtain ⟨r, e, hcs, k1, k2, k3, k4⟩ := open_ent h2
      rw [oCellsEnt] at h1
      obtain ⟨_, hlen, hcell⟩ := World.cells?_some h1
      refine ⟨(r, e), fun c hc => ?_, k1, k2, k3, k4⟩
      have := hcell c (by omega)
      rw [Go.Deep.add_add] at this
      rw [this, hcs]
    obtain ⟨q, hq⟩ := Go.Deep.choose_lt each
    have hlq : ((List.range len).map fun i => (q i).1).length = len := by simp
    have hll : ((List.range len).map fun i => (q i).2).length = len := by simp
    refine ⟨(List.range len).map fun i => (q i).1, (List.range len).map fun i => (q i).2, ⟨⟨some a, m, by rw [hlq], by rw [hlq]; exact hl, fun r hr => ?_, fun hne => ?_⟩, by rw [hlq, hll], fun j h1 h2 => ?_⟩, fun j h1 h2 => ?_⟩
    · obtain ⟨i, hi, rfl⟩ := List.mem_map.1 hr
      exact (hq i (List.mem_range.1 hi)).2.1
    · have h0l : 0 < len := by rw [← hlq]; exact List.length_pos_iff.2 hne
      obtain ⟨b, off, spot⟩ := a
      have g0 := (hq 0 h0l).1 0 (by omega)
      have hspot : spot = none := by
        have : ∃ u, World.cell? w ((⟨b, off, spot⟩ : Addr).add (0 * 5 + 0)) = some u := ⟨_, g0⟩
        obtain ⟨u, hu⟩ := this
        simpa [Addr.add] using World.cell?_spot hu
      subst hspot
      refine ⟨b, off, rfl, fun j hj => ?_⟩
      have hj2 : j < len := by rw [← hlq]; exact hj
      have g := (hq j hj2).1
      simp only [List.getElem_map, List.getElem_range]
      refine ⟨?_, ?_, ?_, ?_, ?_⟩
      · have := g 0 (by omega); rw [Addr.add_lit] at this; exact this
      · have := g 1 (by omega); rw [Addr.add_lit] at this; exact this
      · have := g 2 (by omega); rw [Addr.add_lit] at this; exact this
      · have := g 3 (by omega); rw [Addr.add_lit] at this; exact this
      · have := g 4 (by omega); rw [Addr.add_lit] at this; exact this
    · have hj2 : j < len := by rw [← hlq]; exact h1
      simp only [List.getElem_map, List.getElem_range]
      exact (hq j hj2).2.2.1
    · have hj2 : j < len := by rw [← hlq]; exact h1
      simp only [List.getElem_map, List.getElem_range]
      exact (hq j hj2).2.2.2
end Ve
end Go.Proofs.YtpafkniapacfdaaGreatDoor
