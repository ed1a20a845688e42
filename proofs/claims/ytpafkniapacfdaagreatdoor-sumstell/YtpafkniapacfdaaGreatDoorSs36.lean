
import Derived.Test.YtpafkniapacfdaaGreatDoorSs34
import Derived.Test.YtpafkniapacfdaaGreatDoorSs35
import Derived.Deep.RegionHeld
import Derived.Test.YtpafkniapacfdaaGreatDoorSs29
import Derived.Test.YtpafkniapacfdaaGreatDoorSs9
import Derived.Test.YtpafkniapacfdaaGreatDoorSs22
import Derived.Deep.AppendLies
import Derived.Test.YtpafkniapacfdaaGreatDoorSs32
namespace Go.Proofs.YtpafkniapacfdaaGreatDoor
open Go.RowKit Go.Maps
namespace Ve
theorem findOf_none (a : Option Addr) (c : Nat) (m : Bm) (w : World) : Calls Tryz.prog 50 #[.slice a 0 c, .agg #[.string m.1, .string m.2]] w fun e w' => e = .returned (.int .i64 (-1)) ∧ Below w.heap.size w w' := by
  have HB0 := hid ((Below.refl w.heap.size w).alloc (Nat.le_refl _) (.cells #[.string m.1, .string m.2] 42))
  go_enter Tryz.func50, Tryz.ntmps50
  go_wp2_with fail
  go_loopw [5] (fun i wr => i = .int .i64 0 ∧ Hid (Below w.heap.size w wr)) (fun i _ => 0)
  case atStart => exact ⟨rfl, HB0⟩
  case round =>
    obtain ⟨rfl, HB⟩ := hrel
    go_wp2_with fail
    go_ret
    exact ⟨rfl, HB.out⟩
theorem findOf_all (Q : List Raw) (m : Bm) (v : Value) (w : World) (hL : Q.length ≤ 1000000) (hv : EsAt w v Q) :
    Calls Tryz.prog 50 #[v, .agg #[.string m.1, .string m.2]] w fun e w' => e = .returned (.int .i64 (idxOf (isM m) Q)) ∧ Below w.heap.size w w' := by
  by_cases hQ : Q = []
  · subst hQ
    obtain ⟨a, c, rfl, _⟩ := hv
    exact findOf_none a c m w
  · exact findOf_any Q m v w hL (List.length_pos_iff.2 hQ) hv
theorem nonE_bad {Q : List Raw} {R : List Bm} {k : Nat} (hk : k < R.length) (h0 : ∀ j (h : j < R.length), j < k → 0 ≤ idxOf (isM R[j]) Q) (h : idxOf (isM R[k]) Q < 0) : (codeE (nonE Q R) R.length, fstE (nonE Q R) R.length) = (5, some k) := by
  have hz : ∀ j, j < k → nonE Q R j = 0 := fun j hj => by
    rw [nonE_at (by omega)]
    unfold nonW
    rw [if_neg (Int.not_lt.2 (h0 j (by omega) hj))]
  have h5 : nonE Q R k = 5 := by
    rw [nonE_at hk]
    unfold nonW
    rw [if_pos h]
  have hs := fstE_some hz (by rw [h5]; decide) hk
  rw [codeE_some hs, hs, h5]
theorem nonE_good {Q : List Raw} {R : List Bm} (h0 : ∀ j (h : j < R.length), 0 ≤ idxOf (isM R[j]) Q) : (codeE (nonE Q R) R.length, fstE (nonE Q R) R.length) = (0, none) := by
  have hs : fstE (nonE Q R) R.length = none := fstE_none fun j hj => by
    rw [nonE_at hj]
    unfold nonW
    rw [if_neg (Int.not_lt.2 (h0 j hj))]
  rw [codeE_none hs, hs]
end Ve
end Go.Proofs.YtpafkniapacfdaaGreatDoor


namespace Go.Proofs.YtpafkniapacfdaaGreatDoor
open Go.RowKit
namespace Ve
theorem decN_len {n : Nat} (h : n ≤ 4294967295) : (Lib.decDigits n).length ≤ 10 := by
  rw [Lib.decDigits_length]
  exact nDigits_le 9 _ (by omega)
theorem lineT_len {x : Ln} (h : x.1.1.size < 999999 ∧ x.1.2.size < 999999) (hn : x.2 ≤ 4294967295) : (lineT x).length ≤ 2000020 := by
  have := decN_len hn
  unfold lineT
  simp only [List.length_append, List.length_cons, List.length_nil, len_eq]
  omega
set_option maxRecDepth 100000 in
set_option maxHeartbeats 2000000 in
theorem ltext_any (p v : ByteArray) (n : Nat) (w : World) (hp : p.size < 999999) (hv : v.size < 999999) (hn : n ≤ 4294967295) (htab : Lib.TabIs Tryz.prog w powName .u64 Lib.pow10Tab) :
    Calls Tryz.prog 37 #[.agg #[.string p, .string v, .int .u32 (n : Nat)]] w fun e w' => e = .returned (.string (bt (lineT ((p, v), n)))) ∧ Below w.heap.size w w' := by
  have HB0 := hid ((Below.refl w.heap.size w).alloc (Nat.le_refl _) (.cells #[.string p, .string v, .int .u32 (n : Nat)] 44))
  obtain ⟨Wa, hWa⟩ : ∃ Wa, w.alloc (.cells #[.string p, .string v, .int .u32 (n : Nat)] 44) = Wa := ⟨_, rfl⟩
  have b0 : Wa.cell? ⟨w.heap.size, 0, none⟩ = some (.string p) := by rw [← hWa]; simp
  have b1 : Wa.cell? ⟨w.heap.size, 1, none⟩ = some (.string v) := by rw [← hWa]; simp
  have b2 : Wa.cell? ⟨w.heap.size, 2, none⟩ = some (.int .u32 (n : Nat)) := by rw [← hWa]; simp
  rw [hWa] at HB0
  have HF := hid (fun W (h : Below Wa.heap.size Wa W) => fmtU_any n hn W (tab_below htab (HB0.out.trans (h.mono HB0.out.size))))
  have HT := hid (fun W' (hW : Below Wa.heap.size Wa W') => (show (fun W' => W'.cell? ⟨w.heap.size, 0, none⟩ = some (.string p) ∧ W'.cell? ⟨w.heap.size, 1, none⟩ = some (.string v) ∧ W'.cell? ⟨w.heap.size, 2, none⟩ = some (.int .u32 (n : Nat)) ∧ Hid (Below Wa.heap.size Wa W')) W' from ⟨cell_below hW b0, cell_below hW b1, cell_below hW b2, hid hW⟩))
  have hq : IntKind.u64.wrap (n : Int) = (n : Int) := by rw [IntKind.wrap_u64]; omega
  have HD := hid (decN_len hn)
  have hds : (⟨(Lib.decDigits n).toArray⟩ : ByteArray).size ≤ 10 := by have := HD.out; rw [← len_eq]; simpa using this
  have HE := hid (show p ++ (⟨#[32]⟩ : ByteArray) ++ v ++ (⟨#[32]⟩ : ByteArray) ++ (⟨(Lib.decDigits n).toArray⟩ : ByteArray) ++ (⟨#[10]⟩ : ByteArray) = bt (lineT ((p, v), n)) from str_ext (by rw [bt_list]; simp [lineT]))
  have HW := hid hWa
  clear htab hWa
  generalize (⟨(Lib.decDigits n).toArray⟩ : ByteArray) = D at *
  generalize bt (lineT ((p, v), n)) = T at *
  go_enter Tryz.func37, Tryz.ntmps37
  go_wp2_with fail
  rw [HW.out]
  go_region_held (fun W' => W'.cell? ⟨w.heap.size, 0, none⟩ = some (.string p) ∧ W'.cell? ⟨w.heap.size, 1, none⟩ = some (.string v) ∧ W'.cell? ⟨w.heap.size, 2, none⟩ = some (.int .u32 (n : Nat)) ∧ Hid (Below Wa.heap.size Wa W')) (first | exact HT.out _ HRa.out | exact HT.out _ (below_drawn _ 1)) (first
    | (go_at_call 73; have HFa := HF.out Wa.drew (below_drawn Wa 1); refine HFa.mono ?_; clear HFa; rintro e w' ⟨rfl, hb⟩; have HRa := hid ((below_drawn Wa 1).trans (hb.mono (Nat.le_refl _))); clear hb))
  all_goals
    have HB := hid (HB0.out.trans (HRa.out.mono HB0.out.size))
    clear b0 b1 b2
    go_wp2_with fail
    go_ret
    exact ⟨congrArg (fun z => Ending.returned (Value.string z)) HE.out, HB.out⟩
set_option maxHeartbeats 1000000 in
theorem textK_any (X : List Ln) (b1 : Nat) (v : Value) (A : Nat → Addr) (m : Int) (W : World) (hX : X.length ≤ 1000000) (hs : shortN X) (S : Te W A m) (h1 : W.cell? ⟨b1, 0, none⟩ = some v) (hv : LnAt .u32 W v X) (i : Nat) (hi : i < X.length) :
    Calls Tryz.prog 34 (#[.int .i64 (i : Int), .agg #[.string X[i].1.1, .string X[i].1.2, .int .u32 (X[i].2 : Nat)]] ++ #[.pointer (some ⟨b1, 0, none⟩)]) W fun e w' => e = .returned (errA A (txE X i)) ∧ Below W.heap.size W w' := by
  have HB0 := hid ((Below.refl W.heap.size W).alloc (Nat.le_refl _) (.cells #[.string X[i].1.1, .string X[i].1.2, .int .u32 (X[i].2 : Nat)] 44))
  have HC := hid (chkAt_any X v A m _ hX hs (S.below HB0.out) (hv.below HB0.out) i hi)
  have c1 := cell_below HB0.out h1
  obtain ⟨a, c, rfl, -⟩ := id hv
  generalize X[i] = x at *
  clear S hv h1 hi
  generalize errA A (txE X i) = z at *
  show Calls Tryz.prog 34 #[.int .i64 (i : Int), .agg #[.string x.1.1, .string x.1.2, .int .u32 (x.2 : Nat)], .pointer (some ⟨b1, 0, none⟩)] W _
  go_enter Tryz.func34, Tryz.ntmps34
  go_wp2_with fail
  refine HC.out.mono ?_
  rintro e w1 ⟨rfl, hb⟩
  have HB := hid (HB0.out.trans (hb.mono HB0.out.size))
  clear hb
  go_wp2_with fail
  go_ret
  exact ⟨rfl, HB.out⟩
end Ve
end Go.Proofs.YtpafkniapacfdaaGreatDoor


namespace Go.Proofs.YtpafkniapacfdaaGreatDoor
open Go.RowKit Go.Shelf Go.Sort
namespace Ve
theorem infoLine : (Tryz.prog.info? 44).map (fun i => (i.zero, i.size, i.bytes)) = some (some (.agg #[.string ⟨#[]⟩, .string ⟨#[]⟩, .int .u32 0]), 3, 40) := by kernel_rfl
structure RdL (w0 W : World) (gb pb : Nat) (cs : Array Value) (v : Value) (X : List Ln) : Prop where
  bx : W.heap[gb]? = some (.cells #[v] 34 (0, 0))
  tx : W.heap[pb]? = some (.cells cs 9 (0, 0))
  ow : W.ownsRow w0.heap.size 44 3 v X.length (flatN .u32 X)
  bl : Below w0.heap.size w0 W
theorem RdL.below {w0 W W' : World} {gb pb : Nat} {cs : Array Value} {v : Value} {X : List Ln} (h : RdL w0 W gb pb cs v X) (hb : Below W.heap.size W W') : RdL w0 W' gb pb cs v X :=
  ⟨(hb.block _ (lt_of_blk h.bx)).trans h.bx, (hb.block _ (lt_of_blk h.tx)).trans h.tx, owns_below h.ow hb, h.bl.trans (hb.mono h.bl.size)⟩
theorem own_ne3 {w : World} {B : Nat} {e T : TypeId} {v : Value} {n : Nat} {xs : List Value} {b : Nat} {cs : Array Value} {fr : Nat × Nat} (hown : w.ownsRow B e 3 v n xs) (hb : w.heap[b]? = some (.cells cs T fr)) (hTe : T ≠ e) : v.ownBlock ≠ some b := by
  rcases hown.2 with ⟨rfl, _⟩ | ⟨g, cap, cur, rfl, _, hg, _⟩
  · simp [Value.ownBlock]
  · intro h
    simp only [Value.ownBlock, Option.some.injEq] at h
    subst h
    rw [hg] at hb
    simp only [Option.some.injEq, Obj.cells.injEq] at hb
    exact hTe hb.2.1.symm
set_option maxRecDepth 100000 in
set_option maxHeartbeats 2000000 in
theorem rdK_bad (i : Nat) (s : ByteArray) (w0 W : World) (gb pb : Nat) (cs : Array Value) (v : Value) (X : List Ln) (A : Nat → Addr) (m : Int) (hs : s.size ≤ 1000000) (S : Te w0 A m) (R : Rg w0) (H : RdL w0 W gb pb cs v X) (h : (rdT s.data.toList).1 ≠ 0) :
    Calls Tryz.prog 42 #[.int .i64 (i : Int), .string s, .pointer (some ⟨gb, 0, none⟩)] W fun e w' => e = .returned (errA A (rdT s.data.toList).1) ∧ Below w0.heap.size w0 w' := by
  have HL := hid (rline_any s A m W hs (S.below H.bl) (R.below H.bl))
  have HH := hid H
  obtain ⟨⟨⟨x1, x2⟩, xn⟩, hx⟩ : ∃ x : Ln, x = (rdT s.data.toList).2 := ⟨_, rfl⟩
  rw [← hx] at HL
  rw [errA_if A h] at HL ⊢
  clear S R H h hx
  unfold lnV at HL
  dsimp only at HL
  go_enter Tryz.func42, Tryz.ntmps42
  go_wp2_with fail
  refine HL.out.mono ?_
  rintro e w1 ⟨rfl, hb⟩
  have HB := hid (HH.out.bl.trans (hb.mono HH.out.bl.size))
  clear hb
  go_wp2_with fail
  go_ret
  exact ⟨rfl, HB.out.alloc HB.out.size _⟩
theorem flatN_snoc (X : List Ln) (x : Ln) : flatN .u32 (X ++ [x]) = flatN .u32 X ++ [.string x.1.1, .string x.1.2, .int .u32 (x.2 : Nat)] := by rw [flatN_app]; rfl
theorem RdL.put {w0 W W4 : World} {gb pb : Nat} {cs : Array Value} {v v' : Value} {X : List Ln} {x : Ln} (h : RdL w0 W gb pb cs v X) (hw : w0.heap.size ≤ gb) (hpg : pb ≠ gb)
    (ho : W4.ownsRow w0.heap.size 44 3 v' (X.length + 1) (flatN .u32 X ++ [.string x.1.1, .string x.1.2, .int .u32 (x.2 : Nat)])) (hg : W.grownBy W4 v.ownBlock) : RdL w0 (W4.setCell ⟨gb, 0, none⟩ v') gb pb cs v' (X ++ [x]) := by
  have h1 : W4.heap[gb]? = some (.cells #[v] 34 (0, 0)) := (hg.block gb (lt_of_blk h.bx) (fun e => own_ne3 h.ow h.bx (by decide) e.symm)).trans h.bx
  have h2 : W4.heap[pb]? = some (.cells cs 9 (0, 0)) := (hg.block pb (lt_of_blk h.tx) (fun e => own_ne3 h.ow h.tx (by decide) e.symm)).trans h.tx
  refine ⟨cell1_set h1, (cell1_far hpg).trans h2, ?_, (h.bl.grown hg h.bl.size fun k e => (h.ow.lt k e).1).setCell (p := ⟨gb, 0, none⟩) hw _⟩
  rw [flatN_snoc, List.length_append]
  exact ho.kept (row := some gb) ⟨rfl, rfl, rfl, by simp [World.setCell], fun k _ hk => Below.heap_setCell _ _ _ _ (fun e => hk (by simp [e]))⟩ (Or.inr (own_ne3 ho h1 (by decide)))
set_option maxRecDepth 100000 in
set_option maxHeartbeats 2000000 in
theorem rdK_ok (s : ByteArray) (w0 W : World) (gb pb : Nat) (cs : Array Value) (v : Value) (X : List Ln) (A : Nat → Addr) (m : Int) (hs : s.size ≤ 1000000) (hX : X.length ≤ 999999) (S : Te w0 A m) (R : Rg w0) (hw0 : w0.heap.size ≤ gb) (hpg : pb ≠ gb) (H : RdL w0 W gb pb cs v X) (hsh : shortN (X ++ [(rdT s.data.toList).2])) (h : (rdT s.data.toList).1 = 0) :
    Calls Tryz.prog 42 #[.int .i64 (X.length : Int), .string s, .pointer (some ⟨gb, 0, none⟩)] W fun e w' => e = .returned (errA A (txE (X ++ [(rdT s.data.toList).2]) X.length)) ∧ ∃ v', RdL w0 w' gb pb cs v' (X ++ [(rdT s.data.toList).2]) := by
  obtain ⟨i0, hi0, hz0, hz1, hz2⟩ := info_parts infoLine
  have HL := hid (rline_any s A m W hs (S.below H.bl) (R.below H.bl))
  have HH := hid H
  have HS := hid S
  have HHS := hid hsh
  rw [h] at HL
  obtain ⟨x, hx⟩ : ∃ x : Ln, x = (rdT s.data.toList).2 := ⟨_, rfl⟩
  rw [← hx] at HL HHS ⊢
  rw [errA0] at HL
  clear S R H h hx hsh
  obtain ⟨z, hz⟩ : ∃ z, z = errA A (txE (X ++ [x]) X.length) := ⟨_, rfl⟩
  rw [← hz]
  have HZ := hid hz
  clear hz
  obtain ⟨⟨x1, x2⟩, xn⟩ := x
  unfold lnV at HL
  dsimp only at HL
  go_enter Tryz.func42, Tryz.ntmps42
  go_wp2_with fail
  refine HL.out.mono ?_
  rintro e w1 ⟨rfl, hb⟩
  have HBa := hid ((Below.refl w1.heap.size w1).alloc (Nat.le_refl _) (.cells #[.string x1, .string x2, .int .u32 (xn : Nat)] 44))
  have HH1 := hid ((HH.out.below hb).below HBa.out)
  have cg : (w1.alloc (.cells #[.string x1, .string x2, .int .u32 (xn : Nat)] 44)).cell? ⟨gb, 0, none⟩ = some v := by rw [Lib.cell_of_heap HH1.out.bx]; rfl
  obtain ⟨va, vc, rfl⟩ := own_slN HH1.out.ow
  have hlt := lt_of_blk (HH.out.below hb).bx
  clear hb
  go_wp2_with (at_builtin; refine wpList_append_own _ rfl _ _ 34 rfl w0.heap.size 44 i0 _ 3 40 Tryz.underlying34 hi0 hz0 hz1 hz2 rfl (by decide) _ _ _ rfl (HH1.out.ow.alloc _) ⟨w1.heap.size + 1, 0, none⟩ 1 1 [.string x1, .string x2, .int .u32 (xn : Nat)] rfl rfl ?c1 ?c2 ?c3 ?c4 ?c5 ?_)
  case c1 => exact World.news_of_block (cs := #[.string x1, .string x2, .int .u32 (xn : Nat)]) (t := 44) (fr := (0, 0)) (by have := heap_alloc_new (w1.alloc (.cells #[.string x1, .string x2, .int .u32 (xn : Nat)] 44)) (.cells #[.string x1, .string x2, .int .u32 (xn : Nat)] 44); simpa using this)
  case c2 =>
    intro u hu
    simp at hu
    rcases hu with rfl | rfl | rfl <;> rfl
  case c3 => unfold maxLen; omega
  case c4 => omega
  case c5 => have := HH1.out.bl.size; simp at this ⊢; omega
  intro v' w4 hown hgrow _
  have HBb := hid ((Below.refl _ (w1.alloc (.cells #[.string x1, .string x2, .int .u32 (xn : Nat)] 44))).alloc (Nat.le_refl _) (.cells #[.string x1, .string x2, .int .u32 (xn : Nat)] 44))
  have HH2 := hid (HH1.out.below HBb.out)
  have HRD := hid (HH2.out.put (x := ((x1, x2), xn)) hw0 hpg hown hgrow)
  have hg4 := (hgrow.block gb (lt_of_blk HH2.out.bx) (fun e => own_ne3 HH2.out.ow HH2.out.bx (by decide) e.symm)).trans HH2.out.bx
  have c4 : w4.cell? ⟨gb, 0, none⟩ = some (.slice va X.length vc) := by rw [Lib.cell_of_heap hg4]; rfl
  have f4 := fun o => Lib.frozen_of_heap hg4 o
  obtain ⟨v'a, v'c, rfl⟩ := own_slN hown
  clear hown hgrow hg4
  have HC := hid (chkAt_any (X ++ [((x1, x2), xn)]) (.slice v'a (X.length + 1) v'c) A m _ (by simp; omega) HHS.out (HS.out.below HRD.out.bl) (own_ln HRD.out.ow) X.length (by simp))
  rw [← HZ.out] at HC
  go_wp2_with fail
  refine HC.out.mono ?_
  rintro e w6 ⟨rfl, hb⟩
  have HR6 := hid (HRD.out.below hb)
  clear hb
  go_wp2_with fail
  go_ret
  exact ⟨rfl, _, HR6.out⟩
end Ve
end Go.Proofs.YtpafkniapacfdaaGreatDoor


namespace Go.Proofs.YtpafkniapacfdaaGreatDoor
open Go.RowKit Go.Maps
namespace Ve
set_option maxHeartbeats 4000000 in
set_option maxRecDepth 100000 in
theorem rsel_any (Q : List Raw) (R : List Bm) (v rv : Value) (w : World) (hn : Q.length ≤ 1000) (hR : R.length ≤ 1000000) (hv : EsAt w v Q) (hr : MsAt w rv R) :
    Calls Tryz.prog 49 #[v, rv] w fun e w' => e = .returned (faultV (slF Q R)) ∧ Below w.heap.size w w' := by
  have HB0 := hid ((Below.refl w.heap.size w).alloc (Nat.le_refl _) (.cells #[.int .i64 0, .int .i64 0] 47))
  have HE0 := hid (heap_new w (.cells #[.int .i64 0, .int .i64 0] 47))
  have HFO := hid (fun m W (h : Below w.heap.size w W) => findOf_all Q m v W (by omega) (hv.below h))
  have HFN := hid (fun W => fine_any W)
  have HMR := hid (fun W (h : Below w.heap.size w W) => hr.below h)
  have HGD := hid (nonE_good (Q := Q) (R := R))
  have HBD := hid (fun k (hk : k < R.length) h0 h => nonE_bad (Q := Q) hk h0 h)
  obtain ⟨a, c, hv1, -⟩ := id hv
  subst hv1
  obtain ⟨ra, rc, hrv, -⟩ := id hr
  subst hrv
  show Calls Tryz.prog 49 #[_, _] w fun e w' => e = .returned (faultV (codeE (nonE Q R) R.length, fstE (nonE Q R) R.length)) ∧ Below w.heap.size w w'
  generalize (codeE (nonE Q R) R.length, fstE (nonE Q R) R.length) = ans at *
  clear hv hr
  go_enter Tryz.func49, Tryz.ntmps49
  go_wp2_with fail
  go_loopw [5] (fun kv wr => ∃ k : Nat, k ≤ R.length ∧ kv = .int .i64 k ∧ Hid (∀ j (h : j < R.length), j < k → 0 ≤ idxOf (isM R[j]) Q) ∧ Hid (Below w.heap.size w wr) ∧ Hid (wr.heap[w.heap.size]? = some (.cells #[.int .i64 0, .int .i64 0] 47 (0, 0)))) (fun kv _ => R.length - (intOf kv).toNat)
  case atStart => exact ⟨0, Nat.zero_le _, rfl, hid (fun j _ h => absurd h (Nat.not_lt_zero _)), HB0, HE0⟩
  case round =>
    obtain ⟨k, hk, rfl, HZ3, HB3, HE3⟩ := hrel
    by_cases hlk : k < R.length
    · have hkI : (k : Int) < (R.length : Int) := by omega
      have hk0 : (0 : Int) ≤ (k : Int) := by omega
      obtain ⟨xb, xo, hxa, y0, y1⟩ := (HMR.out _ HB3.out).cells hlk
      subst hxa
      have HLK := hid hlk
      have HF := hid (HFO.out R[k] _ HB3.out)
      have HNK := hid (show 0 ≤ idxOf (isM R[k]) Q → ∀ j (h : j < R.length), j < k + 1 → 0 ≤ idxOf (isM R[j]) Q from fun h0 j h1 h3 => by
        rcases Nat.lt_or_ge j k with h | h
        · exact HZ3.out j h1 h
        · have : j = k := by omega
          subst this; exact h0)
      have HBK := hid (HBD.out k hlk HZ3.out)
      generalize R[k] = x at *
      obtain ⟨x1, x2'⟩ := x
      generalize idxOf (isM (x1, x2')) Q = ix at *
      clear hlk
      by_cases hix : ix < 0
      · have HX := hid (HBK.out hix)
        go_wp2_with fail
        refine HF.out.mono ?_
        rintro e w1 ⟨rfl, hb⟩
        have HB4 := hid (HB3.out.trans (hb.mono HB3.out.size))
        have HE4 := hid ((hb.block _ (lt_of_blk HE3.out)).trans HE3.out)
        clear hb
        have s0 : w1.cell? ⟨w.heap.size, 0, none⟩ = some (.int .i64 0) := by rw [Lib.cell_of_heap HE4.out]; rfl
        have s1 : w1.cell? ⟨w.heap.size, 1, none⟩ = some (.int .i64 0) := by rw [Lib.cell_of_heap HE4.out]; rfl
        have tf := fun o => Lib.frozen_of_heap HE4.out o
        go_wp2_with fail
        refine bodyPost_ret (v := .agg #[.int .i64 5, .int .i64 (k : Int)]) (by simp [results, Tryz.results49, go_sem, s0, s1]) rfl ⟨by rw [HX.out]; rfl, ?_⟩
        exact put2_below HB4.out (Nat.le_refl _)
      · have HN2 := hid (HNK.out (Int.not_lt.1 hix))
        go_wp2_with fail
        refine HF.out.mono ?_
        rintro e w1 ⟨rfl, hb⟩
        have HB4 := hid (HB3.out.trans (hb.mono HB3.out.size))
        have HE4 := hid ((hb.block _ (lt_of_blk HE3.out)).trans HE3.out)
        clear hb
        go_wp2_with fail
        go_roundw
        case rel => first | exact ⟨k + 1, HLK.out, nr_idx k, HN2, HB4, HE4⟩ | exact ⟨k + 1, HLK.out, nx_idx HLK.out hR, HN2, HB4, HE4⟩
        case measure => first | exact nr_meas HLK.out | exact nx_meas HLK.out hR
    · have hkI : ¬ (k : Int) < (R.length : Int) := by omega
      have HX := hid (HGD.out (fun j h => HZ3.out j h (by omega)))
      clear hlk
      go_wp2_with fail
      refine (HFN.out _).mono ?_
      rintro e w1 ⟨rfl, hb⟩
      have HB4 := hid (HB3.out.trans (hb.mono HB3.out.size))
      have HE4 := hid ((hb.block _ (lt_of_blk HE3.out)).trans HE3.out)
      clear hb
      have s0 : w1.cell? ⟨w.heap.size, 0, none⟩ = some (.int .i64 0) := by rw [Lib.cell_of_heap HE4.out]; rfl
      have s1 : w1.cell? ⟨w.heap.size, 1, none⟩ = some (.int .i64 0) := by rw [Lib.cell_of_heap HE4.out]; rfl
      have tf := fun o => Lib.frozen_of_heap HE4.out o
      go_wp2_with fail
      refine bodyPost_ret (v := .agg #[.int .i64 0, .int .i64 (-1)]) (by simp [results, Tryz.results49, go_sem, s0, s1]) rfl ⟨by rw [HX.out]; rfl, ?_⟩
      exact put2_below HB4.out (Nat.le_refl _)
end Ve
end Go.Proofs.YtpafkniapacfdaaGreatDoor
