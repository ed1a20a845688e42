
import Derived.Test.YtpafkniapacfdaaGreatDoorSq27
import Derived.Test.YtpafkniapacfdaaGreatDoorSq15
import Derived.Deep.RegionHeld
import Derived.Test.YtpafkniapacfdaaGreatDoorSq21
import Derived.Test.YtpafkniapacfdaaGreatDoorSq7
import Derived.Test.YtpafkniapacfdaaGreatDoorSq5
import Derived.Test.YtpafkniapacfdaaGreatDoorSq26
import Derived.Test.YtpafkniapacfdaaGreatDoorSq23
import Derived.Deep.DeepCutAuto
namespace Go.Proofs.YtpafkniapacfdaaGreatDoor
open Go.RowKit Go.Maps
namespace Ve
end Ve
end Go.Proofs.YtpafkniapacfdaaGreatDoor


namespace Go.Proofs.YtpafkniapacfdaaGreatDoor
open Go.RowKit
namespace Ve
def idxB (P : Bm → Bool) (L : List Bm) : Int := if L.any P then (L.findIdx P : Int) else -1
theorem idxB_hit {P : Bm → Bool} {L : List Bm} {k : Nat} (hk : k < L.length) (h0 : ∀ j (hj : j < L.length), j < k → P L[j] = false) (h : P L[k] = true) : idxB P L = (k : Int) := by
  unfold idxB
  rw [if_pos (List.any_eq_true.2 ⟨L[k], List.getElem_mem hk, h⟩), (List.findIdx_eq hk).2 ⟨h, fun j hj => h0 j (by omega) hj⟩]
theorem idxB_not {P : Bm → Bool} {L : List Bm} (h0 : ∀ j (hj : j < L.length), P L[j] = false) : idxB P L = -1 := by
  unfold idxB
  rw [if_neg]
  intro h
  obtain ⟨x, hx, h1⟩ := List.any_eq_true.1 h
  obtain ⟨j, hj, rfl⟩ := List.getElem_of_mem hx
  rw [h0 j hj] at h1; cases h1
theorem idxB_next {P : Bm → Bool} {L : List Bm} {k : Nat} (hk : k < L.length) (h0 : ∀ j (hj : j < L.length), j < k → P L[j] = false) (h : P L[k] = false) : ∀ j (hj : j < L.length), j < k + 1 → P L[j] = false := fun j hj hjk => by
  rcases Nat.lt_or_ge j k with h1 | h1
  · exact h0 j hj h1
  · have : j = k := by omega
    subst this; exact h
theorem idxB_kind (P : Bm → Bool) (L : List Bm) : (idxB P L = -1 ∧ ∀ x, x ∈ L → P x = false) ∨ ∃ k, ∃ hk : k < L.length, idxB P L = (k : Int) ∧ P L[k] = true ∧ ∀ j (hj : j < L.length), j < k → P L[j] = false := by
  by_cases h : L.any P
  · refine Or.inr ⟨L.findIdx P, List.findIdx_lt_length.2 (List.any_eq_true.1 h), by unfold idxB; rw [if_pos h], List.findIdx_getElem, fun j hj hjk => ?_⟩
    have := List.not_of_lt_findIdx hjk
    simpa using this
  · refine Or.inl ⟨by unfold idxB; rw [if_neg h], fun x hx => ?_⟩
    cases hp : P x
    · rfl
    · exact absurd (List.any_eq_true.2 ⟨x, hx, hp⟩) h
set_option maxHeartbeats 2000000 in
set_option maxRecDepth 100000 in
theorem idxM_some (K : Nat) (cb : Array Value) (P : Bm → Bool) (L : List Bm) (b o c : Nat) (w : World) (eg : ∀ args w, (callFunc K args).run Tryz.prog w = .ok (.enter K args) w) (hL : L.length ≤ 1000000)
    (hc : ∀ j (h : j < L.length), w.cell? ⟨b, o + j * 2, none⟩ = some (.string L[j].1) ∧ w.cell? ⟨b, o + j * 2 + 1, none⟩ = some (.string L[j].2))
    (hK : ∀ i (h : i < L.length) W, Below w.heap.size w W → Calls Tryz.prog K (#[.agg #[.string L[i].1, .string L[i].2]] ++ cb) W fun e w' => e = .returned (.bool (P L[i])) ∧ Below W.heap.size W w') :
    Calls Tryz.prog 132 #[.slice (some ⟨b, o, none⟩) L.length c, .func (.func K) #[] cb] w fun e w' => e = .returned (.int .i64 (idxB P L)) ∧ Below w.heap.size w w' := by
  have HK := hid hK
  have HC := hid hc
  generalize hr : idxB P L = r
  have HR := hid hr
  clear hK hc hr
  go_enter Tryz.func132, Tryz.ntmps132
  go_wp2_with fail
  go_loopw [8] (fun i wr => ∃ k : Nat, k ≤ L.length ∧ i = .int .i64 k ∧ Hid (∀ j (h : j < L.length), j < k → P L[j] = false) ∧ Hid (Below w.heap.size w wr)) (fun i _ => L.length - (intOf i).toNat)
  case atStart => exact ⟨0, Nat.zero_le _, rfl, hid (fun j _ hj => absurd hj (by omega)), hid (Below.refl _ _)⟩
  case round =>
    obtain ⟨k, hk, rfl, HA, HB⟩ := hrel
    by_cases hlt : k < L.length
    · have HP := hid (HK.out k hlt wr HB.out)
      have x0 := cell_below HB.out (HC.out k hlt).1
      have x1 := cell_below HB.out (HC.out k hlt).2
      have hkI : (k : Int) < (L.length : Int) := by omega
      have HLT := hid hlt
      have HF := hid (fun h => idxB_hit hlt HA.out h)
      have HN := hid (fun h => idxB_next hlt HA.out h)
      generalize hx : L[k] = x at *
      cases hp : P x
      · rw [hp] at HP
        have HN2 := hid (HN.out hp)
        clear hp hx hlt
        go_wp2_with fail
        refine HP.out.mono ?_
        rintro e w1 ⟨rfl, hb⟩
        have HB1 := hid (HB.out.trans (hb.mono HB.out.size))
        clear hb
        go_wp2_with fail
        go_roundw
        case rel => exact ⟨k + 1, by have := HLT.out; omega, by go_num, HN2, HB1⟩
        case measure => have := HLT.out; simp [intOf]; omega
      · rw [hp] at HP
        have HF2 := hid (HF.out hp)
        clear hp hx hlt
        go_wp2_with fail
        refine HP.out.mono ?_
        rintro e w1 ⟨rfl, hb⟩
        have HB1 := hid (HB.out.trans (hb.mono HB.out.size))
        clear hb
        go_wp2_with fail
        go_ret
        exact ⟨by rw [← HR.out, HF2.out]; rfl, HB1.out⟩
    · have HF := hid (idxB_not (P := P) (L := L) (fun j hj => HA.out j hj (by omega)))
      go_wp2_with fail
      go_ret
      exact ⟨by rw [← HR.out, HF.out]; rfl, HB.out⟩
theorem idxM_none (K : Nat) (cb : Array Value) (a : Option Addr) (c : Nat) (w : World) :
    Calls Tryz.prog 132 #[.slice a 0 c, .func (.func K) #[] cb] w fun e w' => e = .returned (.int .i64 (-1)) ∧ Below w.heap.size w w' := by
  go_enter Tryz.func132, Tryz.ntmps132
  go_wp2_with fail
  go_loopw [8] (fun i wr => i = .int .i64 0 ∧ wr = w) (fun i _ => 0)
  case atStart => exact ⟨rfl, rfl⟩
  case round =>
    obtain ⟨rfl, rfl⟩ := hrel
    go_wp2_with fail
    go_ret
    exact ⟨rfl, Below.refl _ _⟩
theorem idxM_any (K : Nat) (cb : Array Value) (P : Bm → Bool) (L : List Bm) (v : Value) (w : World) (eg : ∀ args w, (callFunc K args).run Tryz.prog w = .ok (.enter K args) w) (hL : L.length ≤ 1000000) (hv : MsAt w v L)
    (hK : ∀ i (h : i < L.length) W, Below w.heap.size w W → Calls Tryz.prog K (#[.agg #[.string L[i].1, .string L[i].2]] ++ cb) W fun e w' => e = .returned (.bool (P L[i])) ∧ Below W.heap.size W w') :
    Calls Tryz.prog 132 #[v, .func (.func K) #[] cb] w fun e w' => e = .returned (.int .i64 (idxB P L)) ∧ Below w.heap.size w w' := by
  obtain ⟨a, c, rfl, _, h⟩ := hv
  cases L with
  | nil => exact idxM_none K cb a c w
  | cons x r =>
    obtain ⟨b, o, rfl, h2⟩ := h (by simp)
    exact idxM_some K cb P (x :: r) b o c w eg hL h2 hK
end Ve
end Go.Proofs.YtpafkniapacfdaaGreatDoor


namespace Go.Proofs.YtpafkniapacfdaaGreatDoor
open Go.RowKit
namespace Ve
theorem isB_belowS {T e : TypeId} {B b : Nat} {bs : List Value} {w w' : World} (h : Lib.IsBuilder T e B b bs w) (hb : Below w.heap.size w w') : Lib.IsBuilder T e B b bs w' := by
  have go : ∀ p, Lib.BuilderAt T e B b p bs w → Lib.BuilderAt T e B b p bs w' := fun p h => by
    have hlt := h.lt
    obtain ⟨h1, v, h2, h3, h4⟩ := h
    exact ⟨h1, v, by rw [hb.block _ hlt]; exact h2, owns_below h3 hb, h4⟩
  rcases h with h | h
  · exact Or.inl (go _ h)
  · exact Or.inr (go _ h)
theorem bytes_appS (a b : List UInt8) : Lib.byteCells (a ++ b) = Lib.byteCells a ++ Lib.byteCells b := by simp [Lib.byteCells]
theorem bytes_lenS (a : List UInt8) : (Lib.byteCells a).length = a.length := by simp [Lib.byteCells]
theorem strCellsS (s : ByteArray) : Lib.strCells s = Lib.byteCells s.data.toList := by simp [Lib.strCells, Lib.byteCells]
theorem res5 {w w3 : World} {a b c d e : Value} {T : TypeId} (hb : Below (w.heap.size + 1) (w.alloc (.cells #[a, b, c, d, e] T)) w3) :
    w3.cell? ⟨w.heap.size, 0, none⟩ = some a ∧ w3.cell? ⟨w.heap.size, 1, none⟩ = some b ∧ w3.cell? ⟨w.heap.size, 2, none⟩ = some c ∧ w3.cell? ⟨w.heap.size, 3, none⟩ = some d ∧ w3.cell? ⟨w.heap.size, 4, none⟩ = some e := by
  refine ⟨?_, ?_, ?_, ?_, ?_⟩ <;> (rw [hb.cell (by simp)]; simp)
theorem flat_bd {α : Type} (f : α → List UInt8) (N : Nat) : ∀ L : List α, (∀ x, x ∈ L → (f x).length ≤ N) → (L.flatMap f).length ≤ N * L.length
  | [], _ => by simp
  | x :: L, h => by
    have h1 := h x (List.mem_cons_self ..)
    have h2 := flat_bd f N L fun y hy => h y (List.mem_cons_of_mem _ hy)
    rw [List.flatMap_cons, List.length_append, List.length_cons, Nat.mul_succ]
    omega
theorem flat_next {α : Type} (f : α → List UInt8) {L : List α} {k : Nat} (h : k < L.length) : (L.take (k + 1)).flatMap f = (L.take k).flatMap f ++ f L[k] := by
  rw [List.take_succ_eq_append_getElem h, List.flatMap_append]; simp
theorem modText_len (p v : List UInt8) : (modText p v).length ≤ p.length + v.length + 1 := by
  unfold modText
  split
  · simp; omega
  · simp
theorem modL_len {m : Bm} (h : m.1.size ≤ 70 ∧ m.2.size ≤ 60) : (modL m).length ≤ 132 := by
  have := modText_len m.1.data.toList m.2.data.toList
  rw [len_eq, len_eq] at this
  unfold modL
  rw [List.length_append]
  simp only [List.length_cons, List.length_nil]
  omega
structure OkE (e : Ent) : Prop where
  m : e.1.1.size ≤ 70 ∧ e.1.2.size ≤ 60
  rn : e.2.1.length ≤ 25
  rs : ∀ x, x ∈ e.2.1 → x.1.size ≤ 70 ∧ x.2.size ≤ 60
  pn : e.2.2.1.length ≤ 15
  ps : ∀ x, x ∈ e.2.2.1 → x.size ≤ 70
theorem okE_is {e : Ent} (h : okE e = true) : OkE e := by
  unfold okE at h
  simp only [Bool.and_eq_true, decide_eq_true_eq] at h
  obtain ⟨⟨⟨⟨h1, h2⟩, h3⟩, h4⟩, h5⟩ := h
  obtain ⟨h6, h7⟩ := okL_iff h3
  exact ⟨⟨h1, h2⟩, h6, h7, h4, fun x hx => of_decide_eq_true (List.all_eq_true.1 h5 x hx)⟩
def packB (p : ByteArray) : List UInt8 := 47 :: (p.data.toList ++ [10])
theorem packB_len {p : ByteArray} (h : p.size ≤ 70) : (packB p).length ≤ 72 := by
  unfold packB
  simp only [List.length_cons, List.length_append, List.length_nil, len_eq]
  omega
theorem sumT_is (e : Ent) : sumT e = modL e.1 ++ e.2.1.flatMap modL ++ e.2.2.1.flatMap packB ++ (if e.2.2.2 then [45] else []) := rfl
theorem reqs_bd {e : Ent} (h : OkE e) (k : Nat) : (modL e.1 ++ (e.2.1.take k).flatMap modL).length ≤ 3500 := by
  have h1 := modL_len h.m
  have h2 := flat_bd modL 132 (e.2.1.take k) fun x hx => modL_len (h.rs x (List.mem_of_mem_take hx))
  have h3 : (e.2.1.take k).length ≤ 25 := by have := h.rn; simp; omega
  have h4 : 132 * (e.2.1.take k).length ≤ 132 * 25 := Nat.mul_le_mul_left _ h3
  rw [List.length_append]; omega
theorem packs_bd {e : Ent} (h : OkE e) (k : Nat) : (modL e.1 ++ e.2.1.flatMap modL ++ (e.2.2.1.take k).flatMap packB).length ≤ 5000 := by
  have h1 := reqs_bd h e.2.1.length
  rw [List.take_length] at h1
  have h2 := flat_bd packB 72 (e.2.2.1.take k) fun x hx => packB_len (h.ps x (List.mem_of_mem_take hx))
  have h3 : (e.2.2.1.take k).length ≤ 15 := by have := h.pn; simp; omega
  have h4 : 72 * (e.2.2.1.take k).length ≤ 72 * 15 := Nat.mul_le_mul_left _ h3
  rw [List.length_append]; omega
theorem sumT_len {e : Ent} (h : OkE e) : (sumT e).length ≤ 5001 := by
  have h1 := packs_bd h e.2.2.1.length
  rw [List.take_length] at h1
  rw [sumT_is, List.length_append]
  split <;> simp only [List.length_cons, List.length_nil] <;> omega
theorem TxAt.cellS {W : World} {a : Option Addr} {n c : Nat} {X : List ByteArray} (h : TxAt W (.slice a n c) X) {k : Nat} (hk : k < X.length) : ∃ b o, a = some ⟨b, o, none⟩ ∧ W.cell? ⟨b, o + k, none⟩ = some (.string X[k]) := tx_cellK h hk
set_option maxRecDepth 100000 in
set_option maxHeartbeats 4000000 in
theorem etext_any (e : Ent) (ra rc pa pc : _) (A : Nat → Addr) (m : Int) (w : World) (S : Te w A m) (h : OkE e) (hr : MsAt w (.slice ra e.2.1.length rc) e.2.1) (hp : TxAt w (.slice pa e.2.2.1.length pc) e.2.2.1) :
    Calls Tryz.prog 46 #[.agg #[.string e.1.1, .string e.1.2, .slice ra e.2.1.length rc, .slice pa e.2.2.1.length pc, .bool e.2.2.2]] w fun en w' => en = .returned (.string (bt (sumT e))) ∧ Below w.heap.size w w' := by
  obtain ⟨⟨p, v⟩, R, P, bk⟩ := e
  have HO := hid h
  have HSU := hid (sumT_is ((p, v), R, P, bk))
  have HRB := hid (reqs_bd h)
  have HPB := hid (packs_bd h)
  dsimp only at hr hp ⊢
  dsimp only at HSU HRB HPB
  generalize sumT ((p, v), R, P, bk) = T at *
  have HB0 := hid ((Below.refl w.heap.size w).alloc (Nat.le_refl _) (.cells #[.string p, .string v, .slice ra R.length rc, .slice pa P.length pc, .bool bk] 55))
  obtain ⟨w1, HW1⟩ : ∃ w1, Hid (w1 = w.alloc (.cells #[.string p, .string v, .slice ra R.length rc, .slice pa P.length pc, .bool bk] 55)) := ⟨_, hid rfl⟩
  have HZ1 := hid (show w1.heap.size = w.heap.size + 1 by rw [HW1.out]; simp)
  have HI := hid (show Lib.IsBuilder 79 5 (w.heap.size + 1) (w.heap.size + 1) [] (w1.alloc (.cells #[.pointer none, .slice none 0 0] 79)) by have h := Lib.fresh_isBuilder 79 5 w1; rw [HZ1.out] at h; exact h)
  have HBb := hid ((Below.refl w1.heap.size w1).alloc (Nat.le_refl _) (.cells #[.pointer none, .slice none 0 0] 79))
  have HB1 := hid (show Below w.heap.size w w1 by rw [HW1.out]; exact HB0.out)
  have HS1 := hid (S.below (HB1.out.trans (HBb.out.mono HB1.out.size)))
  have HR := hid (fun W (hW : Below w1.heap.size w1 W) => hr.below (HB1.out.trans (hW.mono HB1.out.size)))
  have HP := hid (fun W (hW : Below w1.heap.size w1 W) => hp.below (HB1.out.trans (hW.mono HB1.out.size)))
  have HCE := hid (fun W (hW : Below w1.heap.size w1 W) => res5 (w := w) (a := .string p) (b := .string v) (c := .slice ra R.length rc) (d := .slice pa P.length pc) (e := .bool bk) (T := 55) (w3 := W) (by
    have := hW; rw [HZ1.out] at this; rw [← HW1.out]; exact this))
  have HTe := hid (fun W (hW : Below w1.heap.size w1 W) => S.below (HB1.out.trans (hW.mono HB1.out.size)))
  clear hr hp S h
  have hz := HO.out.m
  have g1 : p.size < 999999 := by have := hz.1; dsimp only at this; omega
  have g2 : v.size < 999999 := by have := hz.2; dsimp only at this; omega
  clear hz
  go_enter Tryz.func46, Tryz.ntmps46
  go_wp2_with fail
  rw [← HW1.out]
  refine (mtext_any p v A m _ g1 g2 HS1.out).mono ?_
  rintro e w2 ⟨T0, rfl, hT0, hb⟩
  have HB2 := hid (HBb.out.trans (hb.mono HBb.out.size))
  have HI2 := hid (isB_belowS HI.out hb)
  have HSE := hid (show (T0 ++ (⟨#[10]⟩ : ByteArray)).data.toList = modL (p, v) by simp [modL, hT0])
  have HSZ := hid (show (T0 ++ (⟨#[10]⟩ : ByteArray)).size ≤ 132 by rw [← len_eq, HSE.out]; exact modL_len HO.out.m)
  have ht0 : T0.size ≤ 132 := by have h := HSZ.out; rw [ByteArray.size_append] at h; omega
  clear hT0 hb
  go_wp2_with fail
  refine (write_any (w.heap.size + 1) (w.heap.size + 1) [] _ _ HI2.out (by have := HSZ.out; simp only [List.length_nil]; omega) (by have := HB2.out.size; have := HZ1.out; omega)).mono ?_
  rintro e w3 ⟨rfl, hI, hb⟩
  have HB3 := hid (HB2.out.trans (show Below w1.heap.size w2 w3 by rw [HZ1.out]; exact hb))
  have HI3 := hid (show Lib.IsBuilder 79 5 (w.heap.size + 1) (w.heap.size + 1) (Lib.byteCells (modL (p, v) ++ (R.take 0).flatMap modL)) w3 by
    rw [List.take_zero, List.flatMap_nil, List.append_nil, ← HSE.out, ← strCellsS]; exact Or.inr hI)
  clear hI hb
  obtain ⟨c0, c1, c2, c3, c4⟩ := HCE.out w3 HB3.out
  go_wp2_with fail
  go_loopw [16] (fun i wr => ∃ k : Nat, k ≤ R.length ∧ i = .int .i64 k ∧ Hid (Below w1.heap.size w1 wr) ∧ Hid (Lib.IsBuilder 79 5 (w.heap.size + 1) (w.heap.size + 1) (Lib.byteCells (modL (p, v) ++ (R.take k).flatMap modL)) wr)) (fun i _ => R.length - (intOf i).toNat)
  case atStart => exact ⟨0, Nat.zero_le _, rfl, HB3, HI3⟩
  case round =>
    clear c0 c1 c2 c3 c4
    obtain ⟨k, hk, rfl, HBk, HIk⟩ := hrel
    have hrn : R.length ≤ 25 := HO.out.rn
    by_cases hlk : k < R.length
    · obtain ⟨xb, xo, hxa, y0, y1⟩ := (HR.out _ HBk.out).cells hlk
      subst hxa
      have hkI := ix_lt hlk
      have hk0 := ix_pos k
      have HLK := hid hlk
      have hz := HO.out.rs R[k] (List.getElem_mem hlk)
      have HFN := hid (flat_next modL hlk)
      have HBD := hid (HRB.out k)
      generalize R[k] = x at *
      obtain ⟨x1, x2⟩ := x
      dsimp only at y0 y1
      have h1 : x1.size < 999999 := by have := hz.1; dsimp only at this; omega
      have h2 : x2.size < 999999 := by have := hz.2; dsimp only at this; omega
      have HML := hid (modL_len (m := (x1, x2)) hz)
      have HBa := hid (HBk.out.alloc HBk.out.size (.cells #[.string x1, .string x2] 42))
      have HIa := hid (isB_belowS HIk.out ((Below.refl wr.heap.size wr).alloc (Nat.le_refl _) (.cells #[.string x1, .string x2] 42)))
      clear hlk hz
      go_wp2_with fail
      refine (mtext_any x1 x2 A m _ h1 h2 (HTe.out _ HBa.out)).mono ?_
      rintro e w4 ⟨T1, rfl, hT1, hb⟩
      have HB4 := hid (HBa.out.trans (hb.mono HBa.out.size))
      have HI4 := hid (isB_belowS HIa.out hb)
      have HSE1 := hid (show (T1 ++ (⟨#[10]⟩ : ByteArray)).data.toList = modL (x1, x2) by simp [modL, hT1])
      have HSZ1 := hid (show (T1 ++ (⟨#[10]⟩ : ByteArray)).size ≤ 132 by rw [← len_eq, HSE1.out]; exact HML.out)
      have ht1 : T1.size ≤ 132 := by have h := HSZ1.out; rw [ByteArray.size_append] at h; omega
      clear hT1 hb
      go_wp2_with fail
      refine (write_any (w.heap.size + 1) (w.heap.size + 1) _ _ _ HI4.out (by have := HSZ1.out; have := HBD.out; rw [bytes_lenS]; omega) (by have := HB4.out.size; have := HZ1.out; omega)).mono ?_
      rintro e w5 ⟨rfl, hI, hb⟩
      have HB5 := hid (HB4.out.trans (show Below w1.heap.size w4 w5 by rw [HZ1.out]; exact hb))
      have HI5 := hid (show Lib.IsBuilder 79 5 (w.heap.size + 1) (w.heap.size + 1) (Lib.byteCells (modL (p, v) ++ (R.take (k + 1)).flatMap modL)) w5 by
        rw [HFN.out, ← List.append_assoc, bytes_appS, ← HSE1.out, ← strCellsS]; exact Or.inr hI)
      clear hI hb
      go_wp2_with fail
      go_roundw
      case rel => first | exact ⟨k + 1, HLK.out, nx_idx HLK.out (by omega), HB5, HI5⟩ | exact ⟨k + 1, HLK.out, nr_idx k, HB5, HI5⟩
      case measure => first | exact nx_meas HLK.out (by omega) | exact nr_meas HLK.out
    · have hkI := ix_nlt hlk
      have HTK := hid (show R.take k = R from List.take_of_length_le (by omega))
      rw [HTK.out] at HIk
      obtain ⟨c0, c1, c2, c3, c4⟩ := HCE.out wr HBk.out
      have HI6 := hid (show Lib.IsBuilder 79 5 (w.heap.size + 1) (w.heap.size + 1) (Lib.byteCells (modL (p, v) ++ R.flatMap modL ++ (P.take 0).flatMap packB)) wr by
        rw [List.take_zero, List.flatMap_nil, List.append_nil]; exact HIk.out)
      obtain ⟨wo, hwo⟩ : ∃ wo, wo = wr := ⟨_, rfl⟩
      subst hwo
      go_wp2_with fail
      go_loopw [28] (fun i wr => ∃ k : Nat, k ≤ P.length ∧ i = .int .i64 k ∧ Hid (Below w1.heap.size w1 wr) ∧ Hid (Lib.IsBuilder 79 5 (w.heap.size + 1) (w.heap.size + 1) (Lib.byteCells (modL (p, v) ++ R.flatMap modL ++ (P.take k).flatMap packB)) wr)) (fun i _ => P.length - (intOf i).toNat)
      case atStart => exact ⟨0, Nat.zero_le _, rfl, HBk, HI6⟩
      case round =>
        clear c0 c1 c2 c3 c4 hkI hlk hk
        obtain ⟨k, hk, rfl, HBk, HIk⟩ := hrel
        have hpn : P.length ≤ 15 := HO.out.pn
        by_cases hlk : k < P.length
        · obtain ⟨xb, xo, hxa, y0⟩ := (HP.out _ HBk.out).cellS hlk
          subst hxa
          have hkI := ix_lt hlk
          have hk0 := ix_pos k
          have HLK := hid hlk
          have hz := HO.out.ps P[k] (List.getElem_mem hlk)
          have HFN := hid (flat_next packB hlk)
          have HBD := hid (HPB.out k)
          generalize P[k] = x at *
          have HML := hid (packB_len (p := x) hz)
          have HSE1 := hid (show ((⟨#[47]⟩ : ByteArray) ++ x ++ (⟨#[10]⟩ : ByteArray)).data.toList = packB x by simp [packB])
          have HSZ1 := hid (show ((⟨#[47]⟩ : ByteArray) ++ x ++ (⟨#[10]⟩ : ByteArray)).size ≤ 72 by rw [← len_eq, HSE1.out]; exact HML.out)
          clear hlk
          go_wp2_with fail
          refine (write_any (w.heap.size + 1) (w.heap.size + 1) _ _ _ HIk.out (by have := HSZ1.out; have := HBD.out; rw [bytes_lenS]; omega) (by have := HBk.out.size; have := HZ1.out; omega)).mono ?_
          rintro e w5 ⟨rfl, hI, hb⟩
          have HB5 := hid (HBk.out.trans (show Below w1.heap.size wr w5 by rw [HZ1.out]; exact hb))
          have HI5 := hid (show Lib.IsBuilder 79 5 (w.heap.size + 1) (w.heap.size + 1) (Lib.byteCells (modL (p, v) ++ R.flatMap modL ++ (P.take (k + 1)).flatMap packB)) w5 by
            rw [HFN.out, ← List.append_assoc, bytes_appS, ← HSE1.out, ← strCellsS]; exact Or.inr hI)
          clear hI hb
          go_wp2_with fail
          go_roundw
          case rel => first | exact ⟨k + 1, HLK.out, nx_idx HLK.out (by omega), HB5, HI5⟩ | exact ⟨k + 1, HLK.out, nr_idx k, HB5, HI5⟩
          case measure => first | exact nx_meas HLK.out (by omega) | exact nr_meas HLK.out
        · have hkI := ix_nlt hlk
          have HTK := hid (show P.take k = P from List.take_of_length_le (by omega))
          rw [HTK.out] at HIk
          have HBD := hid (HPB.out P.length)
          rw [List.take_length] at HBD
          obtain ⟨c0, c1, c2, c3, c4⟩ := HCE.out wr HBk.out
          cases bk
          · go_wp2_with fail
            refine (Tryz.Builder_String_any (w.heap.size + 1) (w.heap.size + 1) _ wr HIk.out (by have := HBk.out.size; have := HZ1.out; omega)).mono ?_
            rintro e w5 ⟨rfl, hb⟩
            have HB5 := hid (HBk.out.trans (show Below w1.heap.size wr w5 by rw [HZ1.out]; exact hb))
            clear hb
            go_wp2_with fail
            go_ret
            exact ⟨by rw [HSU.out, if_neg (by simp), List.append_nil]; simp only [List.append_assoc]; rfl, HB1.out.trans (HB5.out.mono HB1.out.size)⟩
          · go_wp2_with fail
            refine (write_any (w.heap.size + 1) (w.heap.size + 1) _ ⟨#[45]⟩ _ HIk.out (by have := HBD.out; rw [bytes_lenS]; have : (⟨#[45]⟩ : ByteArray).size = 1 := rfl; omega) (by have := HBk.out.size; have := HZ1.out; omega)).mono ?_
            rintro e w4 ⟨rfl, hI, hb⟩
            have HB4 := hid (HBk.out.trans (show Below w1.heap.size wr w4 by rw [HZ1.out]; exact hb))
            have HI4 := hid (show Lib.IsBuilder 79 5 (w.heap.size + 1) (w.heap.size + 1) (Lib.byteCells (modL (p, v) ++ R.flatMap modL ++ P.flatMap packB ++ [45])) w4 by
              rw [bytes_appS _ [45]]; exact Or.inr hI)
            clear hI hb
            go_wp2_with fail
            refine (Tryz.Builder_String_any (w.heap.size + 1) (w.heap.size + 1) _ w4 HI4.out (by have := HB4.out.size; have := HZ1.out; omega)).mono ?_
            rintro e w5 ⟨rfl, hb⟩
            have HB5 := hid (HB4.out.trans (show Below w1.heap.size w4 w5 by rw [HZ1.out]; exact hb))
            clear hb
            go_wp2_with fail
            go_ret
            exact ⟨by rw [HSU.out]; simp only [if_true, List.append_assoc]; rfl, HB1.out.trans (HB5.out.mono HB1.out.size)⟩
set_option maxHeartbeats 1000000 in
theorem of_any (e : Ent) (ra rc pa pc : _) (A : Nat → Addr) (m : Int) (w : World) (S : Te w A m) (h : OkE e) (hr : MsAt w (.slice ra e.2.1.length rc) e.2.1) (hp : TxAt w (.slice pa e.2.2.1.length pc) e.2.2.1) :
    Calls Tryz.prog 16 #[.agg #[.string e.1.1, .string e.1.2, .slice ra e.2.1.length rc, .slice pa e.2.2.1.length pc, .bool e.2.2.2]] w fun en w' => en = .returned (.int .u32 (sumE e : Nat)) ∧ Below w.heap.size w w' := by
  have HB0 := hid ((Below.refl w.heap.size w).alloc (Nat.le_refl _) (.cells #[.string e.1.1, .string e.1.2, .slice ra e.2.1.length rc, .slice pa e.2.2.1.length pc, .bool e.2.2.2] 55))
  have HT := hid (etext_any e ra rc pa pc A m _ (S.below HB0.out) h (hr.below HB0.out) (hp.below HB0.out))
  have hsz : (bt (sumT e)).size ≤ 1000000 := by have := sumT_len h; rw [← len_eq, bt_list]; omega
  have HC := hid (fun W => crc_any (bt (sumT e)) W hsz)
  rw [bt_list] at HC
  have HE := hid (show crcL (sumT e) = sumE e from rfl)
  clear S h hr hp
  generalize bt (sumT e) = T at *
  generalize crcL (sumT e) = c at *
  go_enter Tryz.func16, Tryz.ntmps16
  go_wp2_with fail
  refine HT.out.mono ?_
  rintro en w1 ⟨rfl, hb⟩
  have HB1 := hid (HB0.out.trans (hb.mono HB0.out.size))
  clear hb
  go_wp2_with fail
  refine (HC.out w1).mono ?_
  rintro en w2 ⟨rfl, hb⟩
  have HB2 := hid (HB1.out.trans (hb.mono HB1.out.size))
  clear hb
  go_wp2_with fail
  go_ret
  exact ⟨congrArg (fun z : Nat => Ending.returned (Value.int .u32 z)) HE.out, HB2.out⟩
end Ve
end Go.Proofs.YtpafkniapacfdaaGreatDoor


namespace Go.Proofs.YtpafkniapacfdaaGreatDoor
open Go.RowKit Go.Maps
namespace Ve
def univ (L : List Ent) : List Bm := L.map fun e => e.1
theorem univ_len (L : List Ent) : (univ L).length = L.length := by simp [univ]
def reqQ (Q : List Raw) (L : List Ent) (m : Bm) : List Bm := if idxOf (isM m) Q < 0 then [] else ((L[(idxOf (isM m) Q).toNat]?).map fun e => e.2.1).getD []
theorem ixs_get {w : World} {v : Value} {Q : List Raw} {L : List Ent} (I : Ixs w v Q L) {j : Nat} (hj : j < Q.length) : ∃ hj' : j < L.length, Q[j].1 = L[j].1 := by
  have hj' : j < L.length := by rw [← I.ln]; exact hj
  exact ⟨hj', (I.ok j hj hj').m⟩
theorem isM_iff {m : Bm} {r : Raw} : isM m r = true ↔ r.1 = m := by
  unfold isM
  constructor
  · intro h; have h2 := of_decide_eq_true h; exact Prod.ext h2.1 h2.2
  · intro h; exact decide_eq_true (by rw [h]; exact ⟨rfl, rfl⟩)
theorem idx_nat (P : Raw → Bool) (Q : List Raw) : idxOf P Q = -1 ∨ ∃ k : Nat, idxOf P Q = (k : Int) := by
  unfold idxOf
  cases fstE (idxE P Q) Q.length with
  | none => exact Or.inl rfl
  | some k => exact Or.inr ⟨k, rfl⟩
theorem idx_none {P : Raw → Bool} {Q : List Raw} (h : idxOf P Q = -1) : ∀ r, r ∈ Q → P r = false := fun r hr => by
  obtain ⟨j, hj, rfl⟩ := List.getElem_of_mem hr
  unfold idxOf at h
  cases h1 : fstE (idxE P Q) Q.length with
  | some k => rw [h1] at h; simp only at h; omega
  | none =>
    have := fstE_of_none h1 j hj
    rw [idxE_at hj] at this
    cases hp : P Q[j] with
    | false => rfl
    | true => rw [hp] at this; simp at this
theorem found_iff {w : World} {v : Value} {Q : List Raw} {L : List Ent} (I : Ixs w v Q L) (m : Bm) : m ∈ univ L ↔ ∃ k : Nat, idxOf (isM m) Q = (k : Int) := by
  constructor
  · intro h
    rcases idx_nat (isM m) Q with h1 | h1
    · obtain ⟨e, he, rfl⟩ := List.mem_map.1 h
      obtain ⟨j, hj, rfl⟩ := List.getElem_of_mem he
      have hj2 : j < Q.length := by rw [I.ln]; exact hj
      have := idx_none h1 Q[j] (List.getElem_mem hj2)
      rw [isM_iff.2 (I.ok j hj2 hj).m] at this
      cases this
    · exact h1
  · rintro ⟨k, h⟩
    obtain ⟨hk, h1⟩ := idx_is h
    obtain ⟨hk', h2⟩ := ixs_get I hk
    exact List.mem_map.2 ⟨L[k], List.getElem_mem hk', by rw [← h2]; exact isM_iff.1 h1⟩
theorem reqQ_at {Q : List Raw} {L : List Ent} {m : Bm} {k : Nat} (h : idxOf (isM m) Q = (k : Int)) (hk : k < L.length) : reqQ Q L m = L[k].2.1 := by
  unfold reqQ
  rw [h, if_neg (by omega), Int.toNat_natCast, List.getElem?_eq_getElem hk]
  rfl
set_option maxRecDepth 100000 in
set_option maxHeartbeats 2000000 in
theorem walk_any (Q : List Raw) (L : List Ent) (roots : List Bm) (v rv : Value) (w : World) (hn : L.length ≤ 1000) (hrn : roots.length ≤ 1000000) (I : Ixs w v Q L) (hr : MsAt w rv roots) (hz : ∀ m, m ∈ univ L → m.1.size ≤ maxLen ∧ m.2.size ≤ maxLen) (hrl : ∀ e, e ∈ L → e.2.1.length ≤ 1000000)
    (hru : ∀ m, m ∈ roots → m ∈ univ L) (hlu : ∀ m, m ∈ univ L → ∀ x, x ∈ reqQ Q L m → x ∈ univ L) :
    Calls Tryz.prog 93 #[v, rv] w fun e w' => ∃ b, e = .returned (.map (some b)) ∧ ∃ T, ByAt w' b T ∧ szT T ∧ Came (reqQ Q L) (univ L) roots T ∧ Below w.heap.size w w' := by
  obtain ⟨a, c, hv, -⟩ := id I.es
  subst hv
  obtain ⟨ra, rc, hrv, -⟩ := id hr
  subst hrv
  have HI := hid I
  have HR := hid hr
  have HZ := hid hz
  have HRL := hid hrl
  have HRU := hid hru
  have HLU := hid hlu
  have eg : ∀ args w, (callFunc 128 args).run Tryz.prog w = .ok (.enter 128 args) w := enters_of Tryz.func128 (by kernel_rfl) rfl
  have hmk : ∀ W : World, (Instr.makeMap 148 none).run Tryz.prog W = .ok (.map (some W.heap.size)) (W.alloc (.map #[] 0)) := fun W => run_makeMap 148 W
  clear I hr hz hrl hru hlu
  go_enter Tryz.func93, Tryz.ntmps93
  go_wp2_with fail
  have HW0 := hid (show Wk w (((w.alloc (.map #[] 0)).alloc (.cells #[.map (some w.heap.size)] 148)).alloc (.cells #[.slice none 0 0] 23)) (w.heap.size + 1) (w.heap.size + 1 + 1) w.heap.size [] by
    have b1 := (Below.refl w.heap.size w).alloc (Nat.le_refl _) (.map #[] 0)
    have b2 := b1.alloc (by simp) (.cells #[.map (some w.heap.size)] 148)
    have b3 := b2.alloc (by simp; omega) (.cells #[.slice none 0 0] 23)
    have c1 := (Below.refl (w.alloc (.map #[] 0)).heap.size (w.alloc (.map #[] 0))).alloc (Nat.le_refl _) (.cells #[.map (some w.heap.size)] 148)
    have c2 := (Below.refl ((w.alloc (.map #[] 0)).alloc (.cells #[.map (some w.heap.size)] 148)).heap.size ((w.alloc (.map #[] 0)).alloc (.cells #[.map (some w.heap.size)] 148))).alloc (Nat.le_refl _) (.cells #[.slice none 0 0] 23)
    have m0 : ByAt (w.alloc (.map #[] 0)) w.heap.size [] := World.ownsMap_made w Tryz.prog 42 rB
    have h1 := heap_new (w.alloc (.map #[] 0)) (.cells #[.map (some w.heap.size)] 148)
    have h2 := heap_new ((w.alloc (.map #[] 0)).alloc (.cells #[.map (some w.heap.size)] 148)) (.cells #[.slice none 0 0] 23)
    have s1 : (w.alloc (.map #[] 0)).heap.size = w.heap.size + 1 := by simp
    have s2 : ((w.alloc (.map #[] 0)).alloc (.cells #[.map (some w.heap.size)] 148)).heap.size = w.heap.size + 1 + 1 := by simp
    rw [s1] at h1
    rw [s2] at h2
    exact ⟨b3, fun x hx => (by cases hx), by omega, by omega, by omega, heap_old _ _ h1, (m0.below c1).below c2, _, h2, World.ownsRow_nil _ _ _ _⟩)
  generalize hW0 : ((w.alloc (.map #[] 0)).alloc (.cells #[.map (some w.heap.size)] 148)).alloc (.cells #[.slice none 0 0] 23) = W0 at *
  clear hW0
  go_loopw [17] (fun iv wr => ∃ k : Nat, k ≤ roots.length ∧ iv = .int .i64 k ∧ Hid (∃ T, Wk w wr (w.heap.size + 1) (w.heap.size + 1 + 1) w.heap.size T ∧ Bfs (reqQ Q L) (univ L) roots T 0 ∧ (∀ m, m ∈ roots.take k → m ∈ whoT T) ∧ ∃ V, LvOk (reqQ Q L) roots T 0 V ∧ ∀ k (hk : k < V.length), V[k] = 1)) (fun i _ => roots.length - (intOf i).toNat)
  case atStart => exact ⟨0, Nat.zero_le _, rfl, hid ⟨[], HW0.out, Bfs.none _ _ _, fun m hm => by simp at hm, [], LvOk.none _ _, fun _ h => absurd h (Nat.not_lt_zero _)⟩⟩
  case round =>
    obtain ⟨k, hk, rfl, HT⟩ := hrel
    by_cases hlt : k < roots.length
    · obtain ⟨T, hT⟩ := HT.out
      have HTT := hid hT
      have HRM := hid (HR.out.below hT.1.bl)
      obtain ⟨rb, ro, hra, hcc⟩ := HRM.out.cells hlt
      subst hra
      have x0 := hcc.1
      have x1 := hcc.2
      have HMU := hid (HRU.out roots[k] (List.getElem_mem hlt))
      have HMR := hid (List.getElem_mem hlt)
      have HTK := hid (show ∀ x, x ∈ roots.take (k + 1) → x ∈ roots.take k ∨ x = roots[k] from fun x hx => by
        rw [List.take_succ_eq_append_getElem hlt] at hx
        rcases List.mem_append.1 hx with h | h
        · exact Or.inl h
        · exact Or.inr (List.mem_singleton.1 h))
      have HLT := hid hlt
      have hkI : (k : Int) < (roots.length : Int) := by omega
      clear hT hcc
      generalize roots[k] = m at *
      clear hlt
      have HBa := hid ((Below.refl wr.heap.size wr).alloc (Nat.le_refl _) (.cells #[.string m.1, .string m.2] 42))
      have HCO := hid (come_any w _ (w.heap.size + 1) (w.heap.size + 1 + 1) w.heap.size T m m (HZ.out m HMU.out) (by have := HTT.out.2.1.len; rw [univ_len] at this; omega) (HTT.out.1.below HBa.out))
      go_wp2_with fail
      refine HCO.out.mono ?_
      rintro e w1 ⟨rfl, hk1⟩
      have HN := hid (show ∃ T, Wk w w1 (w.heap.size + 1) (w.heap.size + 1 + 1) w.heap.size T ∧ Bfs (reqQ Q L) (univ L) roots T 0 ∧ (∀ m, m ∈ roots.take (k + 1) → m ∈ whoT T) ∧ ∃ V, LvOk (reqQ Q L) roots T 0 V ∧ ∀ k (hk : k < V.length), V[k] = 1 from
        ⟨_, hk1, HTT.out.2.1.come HMU.out (Or.inl ⟨rfl, HMR.out⟩), fun x hx => by
          rcases HTK.out x hx with h | rfl
          · exact come_sub (HTT.out.2.2.1 x h)
          · exact come_mem _ _ _, by
          obtain ⟨V, h1, h2⟩ := HTT.out.2.2.2
          exact h1.root h2 HMR.out⟩)
      clear hk1
      go_wp2_with fail
      go_roundw
      case rel => exact ⟨k + 1, HLT.out, nr_idx k, HN⟩
      case measure => exact nr_meas HLT.out
    · have HALL := hid (show ∃ T, Wk w wr (w.heap.size + 1) (w.heap.size + 1 + 1) w.heap.size T ∧ Bfs (reqQ Q L) (univ L) roots T 0 ∧ (∀ m, m ∈ roots → m ∈ whoT T) ∧ ∃ V, LvOk (reqQ Q L) roots T 0 V by
        have := HT.out
        rw [List.take_of_length_le (by omega)] at this
        obtain ⟨T, h1, h2, h3, V, h4, _⟩ := this
        exact ⟨T, h1, h2, h3, V, h4⟩)
      have hkI : ¬ (k : Int) < (roots.length : Int) := by omega
      clear HT hlt
      go_wp2_with fail
      go_loopw [10] (fun iv wr => ∃ i : Nat, iv = .int .i64 i ∧ Hid (∃ T, Wk w wr (w.heap.size + 1) (w.heap.size + 1 + 1) w.heap.size T ∧ Bfs (reqQ Q L) (univ L) roots T i ∧ (∀ m, m ∈ roots → m ∈ whoT T) ∧ ∃ V, LvOk (reqQ Q L) roots T i V)) (fun i _ => L.length - (intOf i).toNat)
      case atStart => exact ⟨0, rfl, HALL⟩
      case round =>
        obtain ⟨i, rfl, HA⟩ := hrel
        obtain ⟨T, hT⟩ := HA.out
        have HTT := hid hT
        obtain ⟨ov, o1, o2⟩ := hT.1.oc
        have hTl : T.length ≤ L.length := by have := hT.2.1.len; rw [univ_len] at this; exact this
        obtain ⟨oa, oc, hov⟩ := own_slN o2
        subst hov
        have z0 : wr.cell? ⟨w.heap.size + 1 + 1, 0, none⟩ = some (.slice oa T.length oc) := by rw [Lib.cell_of_heap o1]; rfl
        have HO2 := hid o2
        clear hT o1 o2 HA
        by_cases hlt : i < T.length
        · have hiI : (i : Int) < (T.length : Int) := by omega
          obtain ⟨b1, o1, hoa, yy0, yy1⟩ := (own_ms (L := whoT T) (by rw [whoT_len]; exact HO2.out)).cells (k := i) (by rw [whoT_len]; exact hlt)
          subst hoa
          rw [whoT_get hlt] at yy0 yy1
          have HLT := hid hlt
          have HOU := hid (HTT.out.2.1.un T[i].1 (whoT_mem.2 ⟨i, hlt, rfl⟩))
          have HOM := hid (show T[i].1 ∈ whoT T from whoT_mem.2 ⟨i, hlt, rfl⟩)
          obtain ⟨o, ho, y0, y1, hou, hom⟩ : ∃ o, T[i].1 = o ∧ wr.cell? ⟨b1, o1 + i * 2, none⟩ = some (.string o.1) ∧ wr.cell? ⟨b1, o1 + i * 2 + 1, none⟩ = some (.string o.2) ∧ o ∈ univ L ∧ o ∈ whoT T := ⟨_, rfl, yy0, yy1, HOU.out, HOM.out⟩
          clear yy0 yy1 HOU HOM
          have HOU := hid hou
          have HOM := hid hom
          have HOI := hid (show ∃ h : i < T.length, (T[i]'h).1 = o from ⟨hlt, ho⟩)
          clear hou hom
          obtain ⟨kq, hkq⟩ := (found_iff HI.out o).1 HOU.out
          obtain ⟨hkl, -⟩ := idx_is hkq
          have hkl2 : kq < L.length := by rw [← HI.out.ln]; exact hkl
          have HFI := hid (find_any Q o (.slice a Q.length c) wr (by rw [HI.out.ln]; omega) (HI.out.below HTT.out.1.bl).es)
          rw [hkq] at HFI
          have HRQ := hid (reqQ_at hkq hkl2)
          have hkI : (kq : Int) < (Q.length : Int) := by omega
          have hk0 : (0 : Int) ≤ (kq : Int) := by omega
          have HES := hid (fun W (h : Below w.heap.size w W) => es_cells (HI.out.below h).es hkl)
          have HMS := hid (fun W (h : Below w.heap.size w W) => ((HI.out.below h).ok kq hkl hkl2).rq)
          have hrl2 := HRL.out L[kq] (List.getElem_mem hkl2)
          generalize (L[kq]'hkl2).2.1 = R at *
          generalize (Q[kq]'hkl).2.1 = qv at *
          obtain ⟨qa, qc, hqv, -⟩ := HMS.out w (Below.refl _ _)
          subst hqv
          clear hkq hkl hkl2 ho hlt
          go_wp2_with fail
          refine HFI.out.mono ?_
          rintro e w1 ⟨rfl, hb⟩
          have HW1 := hid (HTT.out.1.below hb)
          obtain ⟨eb, eo, ha, x2⟩ := HES.out w1 HW1.out.bl
          subst ha
          clear hb HFI
          go_wp2_with fail
          have HMS1 := hid (HMS.out w1 HW1.out.bl)
          have HST := hid (show ∃ T', Wk w w1 (w.heap.size + 1) (w.heap.size + 1 + 1) w.heap.size T' ∧ Bfs (reqQ Q L) (univ L) roots T' i ∧ (∀ m, m ∈ roots → m ∈ whoT T') ∧ (∃ h : i < T'.length, (T'[i]'h).1 = o) ∧ (∀ m, m ∈ R.take 0 → m ∈ whoT T') ∧ ∃ V, LvOk (reqQ Q L) roots T' i V from
            ⟨T, HW1.out, HTT.out.2.1, HTT.out.2.2.1, HOI.out, fun m hm => by simp at hm, HTT.out.2.2.2⟩)
          clear HW1 HTT x2 y0 y1 z0
          go_loopw [43] (fun iv wr => ∃ k : Nat, k ≤ R.length ∧ iv = .int .i64 k ∧ Hid (∃ T', Wk w wr (w.heap.size + 1) (w.heap.size + 1 + 1) w.heap.size T' ∧ Bfs (reqQ Q L) (univ L) roots T' i ∧ (∀ m, m ∈ roots → m ∈ whoT T') ∧ (∃ h : i < T'.length, (T'[i]'h).1 = o) ∧ (∀ m, m ∈ R.take k → m ∈ whoT T') ∧ ∃ V, LvOk (reqQ Q L) roots T' i V)) (fun i _ => R.length - (intOf i).toNat)
          case atStart => exact ⟨0, Nat.zero_le _, rfl, HST⟩
          case round =>
            obtain ⟨k2, hk2, rfl, HS2⟩ := hrel
            by_cases hlt : k2 < R.length
            · obtain ⟨T2, hT2⟩ := HS2.out
              have HT2 := hid hT2
              obtain ⟨qb, qo, hqa, xx0, xx1⟩ := (HMS.out wr hT2.1.bl).cells hlt
              subst hqa
              have HMR := hid (show R[k2] ∈ reqQ Q L o by rw [HRQ.out]; exact List.getElem_mem hlt)
              have HTK := hid (show ∀ x, x ∈ R.take (k2 + 1) → x ∈ R.take k2 ∨ x = R[k2] from fun x hx => by
                rw [List.take_succ_eq_append_getElem hlt] at hx
                rcases List.mem_append.1 hx with h | h
                · exact Or.inl h
                · exact Or.inr (List.mem_singleton.1 h))
              have HLT2 := hid hlt
              have hkI2 : (k2 : Int) < (R.length : Int) := by omega
              obtain ⟨m, hm, x0, x1, hmr, htk⟩ : ∃ m, R[k2] = m ∧ wr.cell? ⟨qb, qo + k2 * 2, none⟩ = some (.string m.1) ∧ wr.cell? ⟨qb, qo + k2 * 2 + 1, none⟩ = some (.string m.2) ∧ m ∈ reqQ Q L o ∧ ∀ x, x ∈ R.take (k2 + 1) → x ∈ R.take k2 ∨ x = m := ⟨_, rfl, xx0, xx1, HMR.out, HTK.out⟩
              clear HMR HTK xx0 xx1
              have HMR := hid hmr
              have HTK := hid htk
              have HMU := hid (HLU.out o HOU.out m hmr)
              obtain ⟨hi2, ho2⟩ := hT2.2.2.2.1
              have HFO := hid (show o ∈ whoT T2 from whoT_mem.2 ⟨i, hi2, ho2⟩)
              obtain ⟨ov, o1, o2⟩ := hT2.1.oc
              obtain ⟨oa2, oc2, hov⟩ := own_slN o2
              subst hov
              have hBa := (Below.refl wr.heap.size wr).alloc (Nat.le_refl _) (.cells #[.string m.1, .string m.2] 42)
              obtain ⟨b3, o3, hoa, w0, w1'⟩ := (own_ms (L := whoT T2) (by rw [whoT_len]; exact o2)).cells (k := i) (by rw [whoT_len]; exact hi2)
              subst hoa
              rw [whoT_get hi2] at w0 w1'
              have hiI2 : (i : Int) < (T2.length : Int) := by omega
              have hi00 : (0 : Int) ≤ (i : Int) := by omega
              obtain ⟨q0, q1⟩ : (wr.alloc (.cells #[.string m.1, .string m.2] 42)).cell? ⟨b3, o3 + i * 2, none⟩ = some (.string o.1) ∧ (wr.alloc (.cells #[.string m.1, .string m.2] 42)).cell? ⟨b3, o3 + i * 2 + 1, none⟩ = some (.string o.2) := ⟨cell_below hBa (by rw [← ho2]; exact w0), cell_below hBa (by rw [← ho2]; exact w1')⟩
              have q2 : (wr.alloc (.cells #[.string m.1, .string m.2] 42)).cell? ⟨w.heap.size + 1 + 1, 0, none⟩ = some (.slice (some ⟨b3, o3, none⟩) T2.length oc2) := cell_below hBa (by rw [Lib.cell_of_heap o1]; rfl)
              have HCO := hid (fun W (h : Wk w W (w.heap.size + 1) (w.heap.size + 1 + 1) w.heap.size T2) => come_any w W (w.heap.size + 1) (w.heap.size + 1 + 1) w.heap.size T2 m o (HZ.out m HMU.out) (by have := HT2.out.2.1.len; rw [univ_len] at this; omega) h)
              have HWB := hid (hT2.1.below hBa)
              clear hT2 hm hmr htk o1 o2 w0 w1' hBa
              clear ho2 hi2 hlt
              go_upto_region 15 with fail
              go_region_with (go_at_call 128; refine (HCO.out _ (HWB.out.below (below_drawn _ 1))).mono ?_; rintro e w4 ⟨rfl, hk4⟩; have HK4 := hid hk4; clear hk4)
              all_goals
                have HNX := hid (show ∃ T', Wk w w4 (w.heap.size + 1) (w.heap.size + 1 + 1) w.heap.size T' ∧ Bfs (reqQ Q L) (univ L) roots T' i ∧ (∀ m, m ∈ roots → m ∈ whoT T') ∧ (∃ h : i < T'.length, (T'[i]'h).1 = o) ∧ (∀ m, m ∈ R.take (k2 + 1) → m ∈ whoT T') ∧ ∃ V, LvOk (reqQ Q L) roots T' i V from by
                  obtain ⟨h1, h2, h3, ⟨h4, h5⟩, h6, V, h7⟩ := HT2.out
                  refine ⟨_, HK4.out, h2.come HMU.out (Or.inr ⟨HFO.out, HMR.out⟩), fun x hx => come_sub (h3 x hx), ?_, fun x hx => ?_, by rw [← h5]; exact h7.reqs h4 h3 (by rw [h5]; exact HMR.out)⟩
                  · obtain ⟨E, hE⟩ := come_old T2 m o
                    rw [hE]
                    exact ⟨by simp; omega, by rw [List.getElem_append_left h4]; exact h5⟩
                  · rcases HTK.out x hx with h | rfl
                    · exact come_sub (h6 x h)
                    · exact come_mem _ _ _)
                go_wp2_with fail
                go_roundw
                case rel => exact ⟨k2 + 1, HLT2.out, nr_idx k2, HNX⟩
                case measure => exact nr_meas HLT2.out
            · have HSE := hid (show ∃ T', Wk w wr (w.heap.size + 1) (w.heap.size + 1 + 1) w.heap.size T' ∧ Bfs (reqQ Q L) (univ L) roots T' (i + 1) ∧ (∀ m, m ∈ roots → m ∈ whoT T') ∧ ∃ V, LvOk (reqQ Q L) roots T' (i + 1) V by
                obtain ⟨T', h1, h2, h3, ⟨h4, h5⟩, h6, V, h7⟩ := HS2.out
                rw [List.take_of_length_le (by omega)] at h6
                exact ⟨T', h1, h2.next h4 (by rw [h5, HRQ.out]; exact h6), h3, V, h7.next h4 (by rw [h5, HRQ.out]; exact h6)⟩)
              have hkI2 : ¬ (k2 : Int) < (R.length : Int) := by omega
              have HIL := hid (show i < L.length by
                obtain ⟨T', h1, h2, h3, ⟨h4, h5⟩, h6⟩ := HS2.out
                have := h2.len
                rw [univ_len] at this
                omega)
              clear HS2 hlt
              go_wp2_with fail
              go_roundw
              case rel => exact ⟨i + 1, nr_idx i, HSE⟩
              case measure => exact nr_meas HIL.out
        · have hiI : ¬ (i : Int) < (T.length : Int) := by omega
          have HTE := hid (show i = T.length by have := HTT.out.2.1.le; omega)
          have z1 : wr.cell? ⟨w.heap.size + 1, 0, none⟩ = some (.map (some w.heap.size)) := by rw [Lib.cell_of_heap HTT.out.1.bc]; rfl
          clear hlt
          go_wp2_with fail
          go_ret
          exact ⟨_, rfl, T, HTT.out.1.mp, HTT.out.1.sz, ⟨by have := HTT.out.2.1; rw [HTE.out] at this; exact this, HTT.out.2.2.1, by have := HTT.out.2.2.2; rw [HTE.out] at this; exact this⟩, HTT.out.1.bl⟩
end Ve
end Go.Proofs.YtpafkniapacfdaaGreatDoor


namespace Go.Proofs.YtpafkniapacfdaaGreatDoor
open Go.RowKit Go.Maps
namespace Ve
end Ve
end Go.Proofs.YtpafkniapacfdaaGreatDoor
