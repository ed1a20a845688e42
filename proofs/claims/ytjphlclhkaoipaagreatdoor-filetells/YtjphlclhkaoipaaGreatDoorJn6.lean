/-
  What Text of package file answers: a file's text, or nothing; nothing old in memory turns.
-/
import Derived.Test.YtjphlclhkaoipaaGreatDoorJn3
import Derived.Test.YtjphlclhkaoipaaGreatDoorJn5
import Derived.Test.YtjphlclhkaoipaaGreatDoorCode
import Derived.OwnWalk
import Derived.Lib.SliceRun
import Derived.Laws.CopyRow
import Derived.Lib.AppendZerosOnto
import Derived.Lib.Overlaps
import Derived.Deep.RegionLaw
import Derived.Shelf.Spec.SlicesInsert
namespace Go.Proofs.YtjphlclhkaoipaaGreatDoor
open Go.RowKit
namespace Ve

theorem isB_below {T e : TypeId} {B b : Nat} {bs : List Value} {w w' : World} (h : Lib.IsBuilder T e B b bs w) (hb : Below w.heap.size w w') : Lib.IsBuilder T e B b bs w' := by
  have go : ∀ p, Lib.BuilderAt T e B b p bs w → Lib.BuilderAt T e B b p bs w' := fun p h => by
    have hlt := h.lt
    obtain ⟨h1, v, h2, h3, h4⟩ := h
    exact ⟨h1, v, by rw [hb.block _ hlt]; exact h2, owns_below h3 hb, h4⟩
  rcases h with h | h
  · exact Or.inl (go _ h)
  · exact Or.inr (go _ h)
theorem strCells_is (s : ByteArray) : Lib.strCells s = Lib.byteCells s.data.toList := by
  simp [Lib.strCells, Lib.byteCells]
theorem bytes_app (a b : List UInt8) : Lib.byteCells (a ++ b) = Lib.byteCells a ++ Lib.byteCells b := by simp [Lib.byteCells]
theorem bytes_len (a : List UInt8) : (Lib.byteCells a).length = a.length := by simp [Lib.byteCells]
theorem ended_snoc (ls : List (List UInt8)) (l : List UInt8) : ended (ls ++ [l]) = ended ls ++ (l ++ [10]) := by simp [ended]
theorem ended_app (a b : List (List UInt8)) : ended (a ++ b) = ended a ++ ended b := by simp [ended]
theorem take_next {L : List Bm} {k : Nat} (h : k < L.length) (f : Bm → List UInt8) : (L.take (k + 1)).map f = (L.take k).map f ++ [f L[k]] := by
  rw [List.take_succ_eq_append_getElem h, List.map_append]; rfl
theorem ended_bd {L : List Bm} (hs : shortL L) {word : List UInt8} (hw : word.length ≤ 100) (k : Nat) : (ended ((L.take k).map (lineOf word))).length ≤ 3000000 * k := by
  have h := ended_len 2999999 ((L.take k).map (lineOf word)) (fun l hl => by
    obtain ⟨m, hm, rfl⟩ := List.mem_map.1 hl
    have := hs m (List.mem_of_mem_take hm)
    simp [lineOf]; omega)
  simp only [List.length_map] at h
  have h2 : (L.take k).length ≤ k := by simp; omega
  have : (L.take k).length * (2999999 + 1) ≤ k * (2999999 + 1) := Nat.mul_le_mul_right _ h2
  omega

set_option maxHeartbeats 1000000 in
theorem wmods_some (word : ByteArray) (L : List Bm) (b o c bb : Nat) (l : List UInt8) (w0 w : World) (hw : word.data.toList.length ≤ 100) (hL : L.length ≤ 1000000) (hs : shortL L) (hl : l.length ≤ 10000000000000)
    (hc : ∀ j (h : j < L.length), w0.cell? ⟨b, o + j * 2, none⟩ = some (.string L[j].1) ∧ w0.cell? ⟨b, o + j * 2 + 1, none⟩ = some (.string L[j].2)) (hb : Below w0.heap.size w0 w) (hB : Lib.IsBuilder 65 5 w0.heap.size bb (Lib.byteCells l) w) :
    Calls Tryz.prog 33 #[.pointer (some ⟨bb, 0, none⟩), .string word, .slice (some ⟨b, o, none⟩) L.length c] w fun e w' => e = .returned (.tuple #[]) ∧ Lib.IsBuilder 65 5 w0.heap.size bb (Lib.byteCells (l ++ ended (L.map (lineOf word.data.toList)))) w' ∧ Below w0.heap.size w0 w' := by
  have HC := hid hc
  have HB := hid hb
  have HI := hid hB
  have HWZ := hid hw
  have HLZ := hid hl
  have HSZ := hid hs
  clear hc hb hB hw hl hs
  go_enter Tryz.func33, Tryz.ntmps33
  go_wp2_with fail
  go_loopw [10] (fun i wr => ∃ k : Nat, k ≤ L.length ∧ i = .int .i64 k ∧ Hid (Below w0.heap.size w0 wr) ∧ Hid (Lib.IsBuilder 65 5 w0.heap.size bb (Lib.byteCells (l ++ ended ((L.take k).map (lineOf word.data.toList)))) wr)) (fun i _ => L.length - (intOf i).toNat)
  case atStart => exact ⟨0, Nat.zero_le _, rfl, HB, hid (by rw [List.take_zero, List.map_nil, show ended [] = [] from rfl, List.append_nil]; exact HI.out)⟩
  case round =>
    obtain ⟨k, hk, rfl, HR, HS⟩ := hrel
    by_cases hlt : k < L.length
    · have hx := cell_below HR.out (HC.out k hlt).1
      have hy := cell_below HR.out (HC.out k hlt).2
      have HLT := hid hlt
      have HZ := hid (HSZ.out L[k] (List.getElem_mem hlt))
      have HTN := hid (take_next hlt (lineOf word.data.toList))
      have HBD := hid (ended_bd HSZ.out HWZ.out k)
      generalize L[k] = x at *
      obtain ⟨p, v⟩ := x
      have HBa := hid (HR.out.alloc HR.out.size (.cells #[.string p, .string v] 26))
      have HIa := hid (isB_below HS.out ((Below.refl wr.heap.size wr).alloc (Nat.le_refl _) (.cells #[.string p, .string v] 26)))
      have h1 : p.size < 999999 := HZ.out.1
      have h2 : v.size < 999999 := HZ.out.2
      have h3 : word.size ≤ 100 := by have := HWZ.out; simp at this; exact this
      have HSE := hid (show (word ++ (⟨#[32]⟩ : ByteArray) ++ p ++ (⟨#[32]⟩ : ByteArray) ++ v ++ (⟨#[10]⟩ : ByteArray)).data.toList = lineOf word.data.toList (p, v) ++ [10] by simp [lineOf])
      have HSZ2 := hid (show (word ++ (⟨#[32]⟩ : ByteArray) ++ p ++ (⟨#[32]⟩ : ByteArray) ++ v ++ (⟨#[10]⟩ : ByteArray)).size ≤ 3000000 by
        rw [← len_eq, HSE.out]; simp [lineOf]; omega)
      go_wp2_with fail
      refine (write_any w0.heap.size bb _ _ _ HIa.out (by
        have e1 := HSZ2.out
        have e2 := HBD.out
        have e3 := HLZ.out
        rw [bytes_len, List.length_append]
        have e4 : 3000000 * k ≤ 3000000 * 1000000 := Nat.mul_le_mul_left _ (by omega)
        omega) HBa.out.size).mono ?_
      rintro e w1 ⟨rfl, hI, hb1⟩
      have HI1 := hid (show Lib.IsBuilder 65 5 w0.heap.size bb (Lib.byteCells (l ++ ended ((L.take (k + 1)).map (lineOf word.data.toList)))) w1 by
        rw [HTN.out, ended_snoc, ← List.append_assoc, bytes_app (l ++ _), ← HSE.out]
        exact Or.inr hI)
      have HB1 := hid (HBa.out.trans hb1)
      clear hI hb1
      go_wp2_with fail
      go_roundw
      case rel => exact ⟨k + 1, by have := HLT.out; omega, by go_num, HB1, HI1⟩
      case measure => have := HLT.out; simp [intOf]; omega
    · have HE := hid (show L.take k = L from List.take_of_length_le (by omega))
      go_wp2_with fail
      go_end0
      exact ⟨rfl, by have h := HS.out; rw [HE.out] at h; exact h, HR.out⟩
theorem wmods_none (word : ByteArray) (a : Option Addr) (c bb : Nat) (w : World) :
    Calls Tryz.prog 33 #[.pointer (some ⟨bb, 0, none⟩), .string word, .slice a 0 c] w fun e w' => e = .returned (.tuple #[]) ∧ w' = w := by
  go_enter Tryz.func33, Tryz.ntmps33
  go_wp2_with fail
  go_loopw [10] (fun i wr => i = .int .i64 0 ∧ wr = w) (fun i _ => 0)
  case atStart => exact ⟨rfl, rfl⟩
  case round =>
    obtain ⟨rfl, rfl⟩ := hrel
    go_wp2_with fail
    go_end0
    exact ⟨rfl, rfl⟩
theorem wmods_any (word : ByteArray) (L : List Bm) (v : Value) (bb : Nat) (l : List UInt8) (w0 w : World) (hw : word.data.toList.length ≤ 100) (hL : L.length ≤ 1000000) (hs : shortL L) (hl : l.length ≤ 10000000000000)
    (hv : MsAt w0 v L) (hb : Below w0.heap.size w0 w) (hB : Lib.IsBuilder 65 5 w0.heap.size bb (Lib.byteCells l) w) :
    Calls Tryz.prog 33 #[.pointer (some ⟨bb, 0, none⟩), .string word, v] w fun e w' => e = .returned (.tuple #[]) ∧ Lib.IsBuilder 65 5 w0.heap.size bb (Lib.byteCells (l ++ ended (L.map (lineOf word.data.toList)))) w' ∧ Below w0.heap.size w0 w' := by
  obtain ⟨a, c, rfl, _, h⟩ := hv
  cases L with
  | nil => exact (wmods_none word a c bb w).mono fun e w' ⟨h1, h2⟩ => ⟨h1, by rw [h2, List.map_nil, show ended [] = [] from rfl, List.append_nil]; exact hB, by rw [h2]; exact hb⟩
  | cons x r =>
    obtain ⟨b, o, rfl, h2⟩ := h (by simp)
    exact wmods_some word (x :: r) b o c bb l w0 w hw hL hs hl h2 hb hB

/-- An error, for a test: none, or some. -/
theorem errAt_nil {W : World} {A : Nat → Addr} {x : Value} {o : Option Nat} (h : ErrAt W A x 0 o) : x = .nilIface := by
  cases o with
  | none => exact h
  | some i => exact absurd rfl h.1
theorem errAt_iface {W : World} {A : Nat → Addr} {x : Value} {c : Nat} {o : Option Nat} (h : ErrAt W A x c o) (hc : c ≠ 0) : ∃ T a, x = .iface T (.pointer (some a)) := by
  cases o with
  | none => exact ⟨_, _, h.trans (errA_if A hc)⟩
  | some i =>
    obtain ⟨_, b, e, _⟩ := h
    exact ⟨_, _, e⟩
theorem fText_is (p : ByteArray) (R X : List Bm) : fText (p, R, X) = wModule ++ 32 :: p.data.toList ++ [10] ++ ended (R.map (lineOf wRequire)) ++ ended (X.map (lineOf wExclude)) := by
  unfold fText linesOf
  rw [show ∀ (a : List UInt8) (r : List (List UInt8)), ended (a :: r) = (a ++ [10]) ++ ended r from fun a r => by simp [ended], ended_app]
  simp

set_option maxHeartbeats 1000000 in
theorem ftext_bad (p : ByteArray) (R X : List Bm) (v u : Value) (A : Nat → Addr) (m : Int) (w : World) (hp : p.size < 999999) (S : Te w A m) (F : Fl w R X v u) (h : (fileF p R X).1 ≠ 0) :
    Calls Tryz.prog 10 #[.agg #[.string p, v, u]] w fun e w' => e = .returned (.string ⟨#[]⟩) ∧ Below w.heap.size w w' := by
  obtain ⟨⟨vp, vc, rfl⟩, up, uc, rfl⟩ := F.slices
  have HB0 := hid ((Below.refl w.heap.size w).alloc (Nat.le_refl _) (.cells #[.string p, .slice vp R.length vc, .slice up X.length uc] 24))
  have HC := hid (fcheck_any p R X _ _ A m _ hp (S.below HB0.out) (F.below HB0.out))
  have HN := hid h
  clear S F h
  go_enter Tryz.func10, Tryz.ntmps10
  go_wp2_with fail
  refine HC.out.mono ?_
  rintro e w1 ⟨x, rfl, he, hb⟩
  obtain ⟨T, a, rfl⟩ := errAt_iface he HN.out
  have HB := hid (HB0.out.trans (hb.mono HB0.out.size))
  clear hb he
  go_wp2_with fail
  go_ret
  exact ⟨rfl, HB.out⟩
set_option maxHeartbeats 1000000 in
theorem ftext_ok (p : ByteArray) (R X : List Bm) (v u : Value) (A : Nat → Addr) (m : Int) (w : World) (hp : p.size < 999999) (S : Te w A m) (F : Fl w R X v u) (h : (fileF p R X).1 = 0) :
    Calls Tryz.prog 10 #[.agg #[.string p, v, u]] w fun e w' => e = .returned (.string (bt (fText (p, R, X)))) ∧ Below w.heap.size w w' := by
  obtain ⟨⟨vp, vc, rfl⟩, up, uc, rfl⟩ := F.slices
  have HB0 := hid ((Below.refl w.heap.size w).alloc (Nat.le_refl _) (.cells #[.string p, .slice vp R.length vc, .slice up X.length uc] 24))
  have HF := hid (F.below HB0.out)
  have HC := hid (fcheck_any p R X _ _ A m _ hp (S.below HB0.out) HF.out)
  rw [h] at HC
  clear S F h
  go_enter Tryz.func10, Tryz.ntmps10
  go_wp2_with fail
  refine HC.out.mono ?_
  rintro e w1 ⟨x, rfl, he, hb⟩
  obtain rfl := errAt_nil he
  have HBa := hid (hb.mono (show w.heap.size + 1 ≤ _ by simp))
  have HB := hid (HB0.out.trans (hb.mono HB0.out.size))
  have HF1 := hid (HF.out.below hb)
  have HI := hid (Lib.fresh_isBuilder 65 5 w1)
  have HBb := hid ((Below.refl w1.heap.size w1).alloc (Nat.le_refl _) (.cells #[.pointer none, .slice none 0 0] 65))
  obtain ⟨⟨r0, r1, r2⟩, rz⟩ := res3 HBa.out
  have s0 := cell_below HBb.out r0
  clear hb he
  have HSE := hid (show ((⟨#[109, 111, 100, 117, 108, 101, 32]⟩ : ByteArray) ++ p ++ (⟨#[10]⟩ : ByteArray)).data.toList = wModule ++ 32 :: p.data.toList ++ [10] by simp [wModule])
  have HSZ := hid (show ((⟨#[109, 111, 100, 117, 108, 101, 32]⟩ : ByteArray) ++ p ++ (⟨#[10]⟩ : ByteArray)).size ≤ 1000100 by rw [← len_eq, HSE.out]; simp [wModule]; omega)
  go_wp2_with fail
  refine (write_any w1.heap.size w1.heap.size [] _ _ HI.out (by have := HSZ.out; simp only [List.length_nil]; omega) HBb.out.size).mono ?_
  rintro e w2 ⟨rfl, hI, hb2⟩
  have HI2 := hid (show Lib.IsBuilder 65 5 w1.heap.size w1.heap.size (Lib.byteCells (wModule ++ 32 :: p.data.toList ++ [10])) w2 by rw [← HSE.out]; exact Or.inr hI)
  have HB2 := hid (HBb.out.trans hb2)
  have t1 := cell_below HB2.out r1
  have t2 := cell_below HB2.out r2
  clear hI hb2 s0
  go_wp2_with fail
  refine (wmods_any ⟨#[114, 101, 113, 117, 105, 114, 101]⟩ R _ w1.heap.size _ w1 w2 (by decide) HF1.out.rn HF1.out.rs (by simp [wModule]; omega) HF1.out.r HB2.out HI2.out).mono ?_
  rintro e w3 ⟨rfl, hI, hb3⟩
  have HI3 := hid hI
  have HB3 := hid hb3
  have q2 := cell_below HB3.out r2
  clear hI hb3 t1 t2
  go_wp2_with fail
  refine (wmods_any ⟨#[101, 120, 99, 108, 117, 100, 101]⟩ X _ w1.heap.size _ w1 w3 (by decide) HF1.out.xn HF1.out.xs (by
    have e1 := ended_bd HF1.out.rs (word := wRequire) (by decide) R.length
    rw [List.take_length] at e1
    have e2 : 3000000 * R.length ≤ 3000000 * 1000000 := Nat.mul_le_mul_left _ HF1.out.rn
    rw [List.length_append]
    have e3 : (ended (List.map (lineOf [114, 101, 113, 117, 105, 114, 101]) R)).length ≤ 3000000 * R.length := e1
    have e4 : (wModule ++ 32 :: p.data.toList ++ [10]).length ≤ 1000100 := by simp [wModule]; omega
    omega) HF1.out.x HB3.out HI3.out).mono ?_
  rintro e w4 ⟨rfl, hI, hb4⟩
  have HI4 := hid (show Lib.IsBuilder 65 5 w1.heap.size w1.heap.size (Lib.byteCells (fText (p, R, X))) w4 by rw [fText_is]; exact hI)
  have HB4 := hid hb4
  clear hI hb4 q2
  go_wp2_with fail
  refine (Tryz.Builder_String_any w1.heap.size w1.heap.size _ w4 HI4.out HB4.out.size).mono ?_
  rintro e w5 ⟨rfl, hb5⟩
  have HB5 := hid (HB.out.trans ((HB4.out.trans hb5).mono HB.out.size))
  clear hb5
  go_wp2_with fail
  go_ret
  exact ⟨rfl, HB5.out⟩
end Ve
end Go.Proofs.YtjphlclhkaoipaaGreatDoor

/-
  What Bare of package place, right and Read of package file answer; nothing old in memory turns.
-/
namespace Go.Proofs.YtjphlclhkaoipaaGreatDoor
open Go.RowKit
namespace Ve

set_option maxHeartbeats 1000000 in
theorem bare_sen (a : Addr) (A : Nat → Addr) (m : Int) (w : World) (S : Te w A m) :
    Calls Tryz.prog 63 #[.iface 200 (.pointer (some a))] w fun e w' => e = .returned (.iface 200 (.pointer (some a))) ∧ Below w.heap.size w w' := by
  have HB0 := hid ((Below.refl w.heap.size w).alloc (Nat.le_refl _) (.cells #[.pointer none] 79))
  have HA := hid (Er.as_miss_b a ⟨w.heap.size, 0, none⟩ _ (S.below HB0.out).sen.et)
  clear S
  go_enter Tryz.func63, Tryz.ntmps63
  go_wp2_with fail
  refine HA.out.mono ?_
  rintro e w1 ⟨rfl, hb⟩
  have HB := hid (HB0.out.trans (hb.mono HB0.out.size))
  clear hb
  go_wp2_with fail
  go_ret
  exact ⟨rfl, HB.out⟩
set_option maxHeartbeats 1000000 in
theorem bare_fault (b : Nat) (x : Addr) (A : Nat → Addr) (m : Int) (w : World) (S : Te w A m) (h1 : w.cell? ⟨b, 1, none⟩ = some (.iface 200 (.pointer (some x)))) :
    Calls Tryz.prog 63 #[.iface 79 (.pointer (some ⟨b, 0, none⟩))] w fun e w' => e = .returned (.iface 200 (.pointer (some x))) ∧ Below w.heap.size w w' := by
  have HB0 := hid ((Below.refl w.heap.size w).alloc (Nat.le_refl _) (.cells #[.pointer none] 79))
  have HA := hid (Er.as_hit_b ⟨b, 0, none⟩ ⟨w.heap.size, 0, none⟩ (.pointer none) _ w.heap.size (Nat.le_refl _) (S.below HB0.out).sen.et (by simp) (by simp) (by simp))
  have H1 := hid h1
  clear S h1
  go_enter Tryz.func63, Tryz.ntmps63
  go_wp2_with fail
  refine HA.out.mono ?_
  rintro e w1 ⟨rfl, hb, ht⟩
  have HB := hid (HB0.out.trans hb)
  have c1 := cell_below HB.out H1.out
  clear hb
  go_wp2_with fail
  go_ret
  exact ⟨rfl, HB.out⟩
/-- place.Bare. -/
theorem bare_any (x : Value) (c : Nat) (o : Option Nat) (A : Nat → Addr) (m : Int) (w : World) (S : Te w A m) (h : ErrAt w A x c o) (hc : c ≠ 0) :
    Calls Tryz.prog 63 #[x] w fun e w' => e = .returned (errA A c) ∧ Below w.heap.size w w' := by
  cases o with
  | none =>
    have h : x = errA A c := h
    rw [h, errA_if A hc]
    exact bare_sen _ A m w S
  | some i =>
    obtain ⟨_, b, rfl, _, h3⟩ := h
    rw [errA_if A hc] at h3 ⊢
    exact bare_fault b _ A m w S h3

theorem two3 {w w3 : World} {a b c a' b' c' : Value} {T T' : TypeId} (hb : Below (w.heap.size + 1 + 1) ((w.alloc (.cells #[a, b, c] T)).alloc (.cells #[a', b', c'] T')) w3) :
    (w3.cell? ⟨w.heap.size, 0, none⟩ = some a ∧ w3.cell? ⟨w.heap.size, 1, none⟩ = some b ∧ w3.cell? ⟨w.heap.size, 2, none⟩ = some c) ∧
    (w3.cell? ⟨w.heap.size + 1, 0, none⟩ = some a' ∧ w3.cell? ⟨w.heap.size + 1, 1, none⟩ = some b' ∧ w3.cell? ⟨w.heap.size + 1, 2, none⟩ = some c') ∧ (∀ o, w3.frozen? ⟨w.heap.size + 1, o, none⟩ = false) ∧ w.heap.size + 1 < w3.heap.size := by
  have hz : (w.alloc (.cells #[a, b, c] T)).heap.size = w.heap.size + 1 := by simp
  have h2 : Below ((w.alloc (.cells #[a, b, c] T)).heap.size + 1) ((w.alloc (.cells #[a, b, c] T)).alloc (.cells #[a', b', c'] T')) w3 := by rw [hz]; exact hb
  obtain ⟨c2, z2⟩ := res3 h2
  have f2 := res3f h2
  rw [hz] at c2 z2 f2
  refine ⟨?_, c2, f2, z2⟩
  have go : ∀ o, w3.cell? ⟨w.heap.size, o, none⟩ = (w.alloc (.cells #[a, b, c] T)).cell? ⟨w.heap.size, o, none⟩ := fun o => by
    rw [hb.cell (by simp; omega), World.cell?_alloc_lt _ _ _ (by simp)]
  rw [go, go, go]
  simp
set_option maxHeartbeats 1000000 in
theorem right_bad (p : ByteArray) (R X : List Bm) (v u : Value) (A : Nat → Addr) (m : Int) (w : World) (hp : p.size < 999999) (S : Te w A m) (F : Fl w R X v u) (h : (fileF p R X).1 ≠ 0) :
    Calls Tryz.prog 36 #[.agg #[.string p, v, u]] w fun e w' => e = .returned (.tuple #[.agg #[.string ⟨#[]⟩, .slice none 0 0, .slice none 0 0], errA A (fileF p R X).1]) ∧ Below w.heap.size w w' := by
  obtain ⟨⟨vp, vc, rfl⟩, up, uc, rfl⟩ := F.slices
  have HB1 := hid (((Below.refl w.heap.size w).alloc (Nat.le_refl _) (.cells #[.string p, .slice vp R.length vc, .slice up X.length uc] 24)).alloc (by simp) (.cells #[.string ⟨#[]⟩, .slice none 0 0, .slice none 0 0] 24))
  have HS := hid (S.below HB1.out)
  have HC := hid (fcheck_any p R X _ _ A m _ hp HS.out (F.below HB1.out))
  have HN := hid h
  rw [errA_if A h]
  have HEI := hid (errA_if A h)
  clear S F h
  generalize (fileF p R X).1 = cc at *
  generalize (fileF p R X).2 = oo at *
  go_enter Tryz.func36, Tryz.ntmps36
  go_wp2_with fail
  refine HC.out.mono ?_
  rintro e w1 ⟨x, rfl, he, hb⟩
  have HE := hid he
  have HBa := hid (show Below (w.heap.size + 1 + 1) ((w.alloc (.cells #[.string p, .slice vp R.length vc, .slice up X.length uc] 24)).alloc (.cells #[.string ⟨#[]⟩, .slice none 0 0, .slice none 0 0] 24)) w1 from hb.mono (by simp))
  have HS1 := hid (HS.out.below hb)
  have HB2 := hid (HB1.out.trans (hb.mono HB1.out.size))
  have HBR := hid (bare_any x cc oo A m w1 HS1.out he HN.out)
  rw [HEI.out] at HBR
  obtain ⟨T, a, rfl⟩ := errAt_iface he HN.out
  clear he hb
  go_wp2_with fail
  refine HBR.out.mono ?_
  rintro e w2 ⟨rfl, hb⟩
  have HBb := hid (HBa.out.trans (hb.mono (by have := HBa.out.size; simp at this; omega)))
  obtain ⟨_, ⟨r0, r1, r2⟩, rf, rz⟩ := two3 HBb.out
  have HB3 := hid (HB2.out.trans (hb.mono HB2.out.size))
  clear hb
  go_wp2_with fail
  refine bodyPost_ret (v := .tuple #[.agg #[.string ⟨#[]⟩, .slice none 0 0, .slice none 0 0], .iface 200 (.pointer (some (A (cc - 1))))]) (by simp [results, Tryz.results36, go_sem, r0, r1, r2]) rfl ⟨rfl, ?_⟩
  exact put3_below HB3.out (by omega)
set_option maxHeartbeats 1000000 in
theorem right_ok (p : ByteArray) (R X : List Bm) (v u : Value) (A : Nat → Addr) (m : Int) (w : World) (hp : p.size < 999999) (S : Te w A m) (F : Fl w R X v u) (h : (fileF p R X).1 = 0) :
    Calls Tryz.prog 36 #[.agg #[.string p, v, u]] w fun e w' => e = .returned (.tuple #[.agg #[.string p, v, u], .nilIface]) ∧ Below w.heap.size w w' := by
  obtain ⟨⟨vp, vc, rfl⟩, up, uc, rfl⟩ := F.slices
  have HB1 := hid (((Below.refl w.heap.size w).alloc (Nat.le_refl _) (.cells #[.string p, .slice vp R.length vc, .slice up X.length uc] 24)).alloc (by simp) (.cells #[.string ⟨#[]⟩, .slice none 0 0, .slice none 0 0] 24))
  have HC := hid (fcheck_any p R X _ _ A m _ hp (S.below HB1.out) (F.below HB1.out))
  rw [h] at HC
  clear S F h
  go_enter Tryz.func36, Tryz.ntmps36
  go_wp2_with fail
  refine HC.out.mono ?_
  rintro e w1 ⟨x, rfl, he, hb⟩
  obtain rfl := errAt_nil he
  have HBa := hid (show Below (w.heap.size + 1 + 1) ((w.alloc (.cells #[.string p, .slice vp R.length vc, .slice up X.length uc] 24)).alloc (.cells #[.string ⟨#[]⟩, .slice none 0 0, .slice none 0 0] 24)) w1 from hb.mono (by simp))
  obtain ⟨⟨q0, q1, q2⟩, ⟨r0, r1, r2⟩, rf, rz⟩ := two3 HBa.out
  have HB2 := hid (HB1.out.trans (hb.mono HB1.out.size))
  clear he hb
  go_wp2_with fail
  refine bodyPost_ret (v := .tuple #[.agg #[.string p, .slice vp R.length vc, .slice up X.length uc], .nilIface]) (by simp [results, Tryz.results36, go_sem, r0, r1, r2]) rfl ⟨rfl, ?_⟩
  exact put3_below HB2.out (by omega)

/-- What Read answers. -/
def readF (s : List UInt8) : Except (Nat × Option Nat) Fs :=
  if 8000 < s.length then .error (2, none) else match readL s with
    | .error i => .error (1, some i)
    | .ok f => if (fileF f.1 f.2.1 f.2.2).1 = 0 then .ok f else .error ((fileF f.1 f.2.1 f.2.2).1, none)
def ReadFP (s : List UInt8) (A : Nat → Addr) (w w' : World) (e : Ending) : Prop :=
  ∃ (P : ByteArray) (v u x : Value), e = .returned (.tuple #[.agg #[.string P, v, u], x]) ∧ Below w.heap.size w w' ∧ match readF s with
    | .error co => ErrAt w' A x co.1 co.2 ∧ co.1 ≠ 0 ∧ P = ⟨#[]⟩ ∧ v = .slice none 0 0 ∧ u = .slice none 0 0
    | .ok f => x = .nilIface ∧ P = f.1 ∧ MsAt w' v f.2.1 ∧ MsAt w' u f.2.2

/-- Words are no longer than the line. -/
theorem step_short {N i : Nat} {ws : List (List UInt8)} {f f' : Fs} (h : stepF i ws f = some f') (hw : ∀ x, x ∈ ws → x.length ≤ N) (hf : f.1.size ≤ N ∧ ∀ m, m ∈ f.2.1 ++ f.2.2 → m.1.size ≤ N ∧ m.2.size ≤ N) : f'.1.size ≤ N ∧ ∀ m, m ∈ f'.2.1 ++ f'.2.2 → m.1.size ≤ N ∧ m.2.size ≤ N := by
  have hb : ∀ l : List UInt8, (bt l).size = l.length := fun l => by rw [← len_eq, bt_list]
  unfold stepF at h
  split at h
  · split at h
    · split at h
      · rename_i a b _
        simp only [Option.some.injEq] at h; subst h
        exact ⟨by rw [hb]; exact hw _ (by simp), hf.2⟩
      · cases h
    · cases h
  · split at h
    · rename_i a b c
      have h1 := hw b (by simp)
      have h2 := hw c (by simp)
      split at h
      · simp only [Option.some.injEq] at h; subst h
        refine ⟨hf.1, fun m hm => ?_⟩
        simp only [List.mem_append, List.mem_singleton] at hm
        rcases hm with (hm | hm) | hm
        · exact hf.2 m (List.mem_append_left _ hm)
        · rw [hm]; exact ⟨by rw [hb]; exact h1, by rw [hb]; exact h2⟩
        · exact hf.2 m (List.mem_append_right _ hm)
      · split at h
        · simp only [Option.some.injEq] at h; subst h
          refine ⟨hf.1, fun m hm => ?_⟩
          simp only [List.mem_append, List.mem_singleton] at hm
          rcases hm with hm | hm | hm
          · exact hf.2 m (List.mem_append_left _ hm)
          · exact hf.2 m (List.mem_append_right _ hm)
          · rw [hm]; exact ⟨by rw [hb]; exact h1, by rw [hb]; exact h2⟩
        · cases h
    · cases h
theorem st_short {N : Nat} {C : List (List UInt8)} (hC : ∀ p, p ∈ C → p.length ≤ N) : ∀ i, (stF C i).1.size ≤ N ∧ ∀ m, m ∈ (stF C i).2.1 ++ (stF C i).2.2 → m.1.size ≤ N ∧ m.2.size ≤ N
  | 0 => ⟨Nat.zero_le _, fun m hm => by simp [stF, noFile] at hm⟩
  | i + 1 => by
    have ih := st_short hC i
    unfold stF
    cases h : stepF i (cutAt 32 (C.getD i [])) (stF C i) with
    | none => exact ih
    | some f =>
      refine step_short h (fun x hx => ?_) ih
      have h1 := cutAt_le 32 _ x hx
      have h2 : (C.getD i []).length ≤ N := by
        by_cases hc : i < C.length
        · rw [show C.getD i [] = C[i] by simp [List.getD, List.getElem?_eq_getElem hc]]
          exact hC _ (List.getElem_mem hc)
        · rw [show C.getD i [] = [] by simp [List.getD, List.getElem?_eq_none (Nat.le_of_not_lt hc)]]
          simp
      omega
theorem readL_short {s : List UInt8} {f : Fs} (h : readL s = .ok f) : f.1.size ≤ s.length ∧ (∀ m, m ∈ f.2.1 ++ f.2.2 → m.1.size ≤ s.length ∧ m.2.size ≤ s.length) ∧ f.2.1.length + f.2.2.length ≤ s.length + 1 := by
  rw [readL_is] at h
  cases h2 : fstE (lnE (cutAt 10 s)) (cutAt 10 s).length with
  | some k => rw [h2] at h; cases h
  | none =>
    rw [h2] at h
    simp only [Except.ok.injEq] at h
    have h3 := st_short (cutAt_le 10 s) ((cutAt 10 s).length - 1)
    have h4 := st_many (cutAt 10 s) ((cutAt 10 s).length - 1)
    have h5 := cutAt_many 10 s
    rw [h] at h3 h4
    exact ⟨h3.1, h3.2, by omega⟩
end Ve
end Go.Proofs.YtjphlclhkaoipaaGreatDoor

/-
  What slices.Clone at modules and copyOf of package file answer: rows of the call's own; nothing old in memory turns.
-/
namespace Go.Proofs.YtjphlclhkaoipaaGreatDoor
open Go.RowKit
namespace Ve

theorem ms_flat {w : World} {b o : Nat} {L : List Bm} (hc : ∀ j (h : j < L.length), w.cell? ⟨b, o + j * 2, none⟩ = some (.string L[j].1) ∧ w.cell? ⟨b, o + j * 2 + 1, none⟩ = some (.string L[j].2)) : ∀ j u, (flatM L)[j]? = some u → w.cell? ⟨b, o + j, none⟩ = some u := by
  intro j u hj
  have hl : j < L.length * 2 := by rw [← flatM_len]; exact (List.getElem?_eq_some_iff.1 hj).1
  have h1 := flatM_get L (j / 2) (j % 2) (by omega) (by omega)
  rw [show j / 2 * 2 + j % 2 = j by omega, hj] at h1
  have h2 := hc (j / 2) (by omega)
  rcases Nat.mod_two_eq_zero_or_one j with e | e
  · rw [e] at h1
    have : u = .string L[j / 2].1 := by simpa using h1
    rw [this, ← h2.1]
    congr 2; omega
  · rw [e] at h1
    have : u = .string L[j / 2].2 := by simpa using h1
    rw [this, ← h2.2]
    congr 2; omega
theorem flat_one (L : List Bm) : ∀ u ∈ flatM L, u.oneCell' = true := by
  intro u hu
  obtain ⟨m, _, hm⟩ := List.mem_flatMap.1 hu
  simp at hm
  rcases hm with rfl | rfl <;> rfl
set_option maxHeartbeats 1000000 in
theorem clone_some (b o c : Nat) (L : List Bm) (w : World) (hn : L.length ≤ 1000000) (hc : ∀ j u, (flatM L)[j]? = some u → w.cell? ⟨b, o + j, none⟩ = some u) :
    Calls Tryz.prog 64 #[.slice (some ⟨b, o, none⟩) L.length c] w fun e w' => ∃ v, e = .returned v ∧ w'.ownsRow w.heap.size 26 2 v L.length (flatM L) ∧ Below w.heap.size w w' := by
  obtain ⟨i0, hi, hz0, hz1, hz2⟩ := info_parts infoMod
  have q22 : ∀ (w : World) (a : Option Addr) (n c n' c' : Nat), (binOp .eql 22 (.slice a n c) (.slice none n' c')).run Tryz.prog w = .ok (.bool a.isNone) w := fun w a n c n' c' => Lib.run_eql_slice_nil w _ _ a n c n' c' Tryz.underlying22
  have HC := hid hc
  clear hc
  go_enter Tryz.func64, Tryz.ntmps64
  go_wp2_with (at_builtin; refine wpList_append_own _ rfl _ _ 22 rfl w.heap.size 26 i0 _ 2 32 Tryz.underlying22 hi hz0 hz1 hz2 rfl (by decide) _ _ _ rfl (World.ownsRow_made w #[] 0 (Nat.le_refl _) (Nat.zero_le _) (by simp)) ⟨b, o, none⟩ L.length c (flatM L) rfl ?qc1 ?qc2 ?qc3 ?qc4 ?qc5 ?qc6 ?_)
  case qc1 => exact flatM_len L
  case qc2 =>
    intro j u hj
    rw [Addr.add_lit]
    exact Lib.cell?_alloc_some _ (HC.out j u hj)
  case qc3 => exact flat_one L
  case qc4 => rw [Nat.zero_add]; unfold maxLen; omega
  case qc5 => rw [Nat.zero_add]; omega
  case qc6 => simp
  intro v' w1 hown hgrow hnil
  obtain ⟨va, vn, vc, rfl⟩ := own_sl hown
  have HO := hid hown
  have HG := hid hgrow
  clear hown hgrow hnil
  go_wp2_with fail
  go_ret
  refine ⟨_, rfl, by simpa using HO.out, ?_⟩
  exact ((Below.refl _ w).alloc (Nat.le_refl _) _).grown HG.out (by simp) (by intro k hk; simp [Value.ownBlock] at hk; omega)
theorem clone_nil (w : World) : Calls Tryz.prog 64 #[.slice none 0 0] w fun e w' => e = .returned (.slice none 0 0) ∧ w' = w := by
  have q22 : ∀ (w : World) (a : Option Addr) (n c n' c' : Nat), (binOp .eql 22 (.slice a n c) (.slice none n' c')).run Tryz.prog w = .ok (.bool a.isNone) w := fun w a n c n' c' => Lib.run_eql_slice_nil w _ _ a n c n' c' Tryz.underlying22
  go_enter Tryz.func64, Tryz.ntmps64
  go_wp2_with fail
  go_ret
  exact ⟨rfl, rfl⟩
/-- slices.Clone at modules: what is empty is nil. -/
theorem clone_any (v : Value) (L : List Bm) (w : World) (hn : L.length ≤ 1000000) (hv : MsAt w v L) (hz : L = [] → v = .slice none 0 0) :
    Calls Tryz.prog 64 #[v] w fun e w' => ∃ u, e = .returned u ∧ w'.ownsRow w.heap.size 26 2 u L.length (flatM L) ∧ (L = [] → u = .slice none 0 0) ∧ Below w.heap.size w w' := by
  cases L with
  | nil =>
    rw [hz rfl]
    exact (clone_nil w).mono fun e w' ⟨h1, h2⟩ => ⟨_, h1, World.ownsRow_nil _ _ _ _, fun _ => rfl, by rw [h2]; exact Below.refl _ _⟩
  | cons x r =>
    obtain ⟨a, c, rfl, _, h⟩ := hv
    obtain ⟨b, o, rfl, h2⟩ := h (by simp)
    exact (clone_some b o c (x :: r) w hn (ms_flat h2)).mono fun e w' ⟨u, h1, h2, h3⟩ => ⟨u, h1, h2, (fun h => by cases h), h3⟩
/-- What copyOf answers: a file in rows of its own, which stand apart. -/
structure Cp2 (w0 W : World) (R X : List Bm) (v u : Value) : Prop where
  ov : W.ownsRow w0.heap.size 26 2 v R.length (flatM R)
  ou : W.ownsRow w0.heap.size 26 2 u X.length (flatM X)
  ap : ∀ g, v.ownBlock = some g → u.ownBlock ≠ some g
  bl : Below w0.heap.size w0 W
  zv : R = [] → v = .slice none 0 0
  zu : X = [] → u = .slice none 0 0
theorem own_below2 {W W' : World} {B n : Nat} {e : TypeId} {v : Value} {xs : List Value} (h : W.ownsRow B e 2 v n xs) (hb : Below W.heap.size W W') : W'.ownsRow B e 2 v n xs := owns_below h hb
theorem two3b {w w3 : World} {o : Obj} {a' b' c' : Value} {T' : TypeId} (hb : Below (w.heap.size + 1 + 1) ((w.alloc o).alloc (.cells #[a', b', c'] T')) w3) : w3.heap[w.heap.size + 1]? = some (.cells #[a', b', c'] T' (0, 0)) := by
  have := heap_new (w.alloc o) (.cells #[a', b', c'] T')
  rw [show (w.alloc o).heap.size = w.heap.size + 1 by simp] at this
  rw [hb.block _ (by omega)]; exact this
theorem cp_size {w w1 : World} {a b : Obj} (h : Below (w.heap.size + 1 + 1) ((w.alloc a).alloc b) w1) : w.heap.size + 1 + 1 ≤ w1.heap.size := by
  have := h.size; simpa using this
set_option maxHeartbeats 2000000 in
theorem copy_of (p : ByteArray) (R X : List Bm) (v u : Value) (w : World) (F : Fl w R X v u) (hz : R = [] → v = .slice none 0 0) (hx : X = [] → u = .slice none 0 0) :
    Calls Tryz.prog 39 #[.agg #[.string p, v, u]] w fun e w' => ∃ v' u', e = .returned (.agg #[.string p, v', u']) ∧ Cp2 w w' R X v' u' := by
  obtain ⟨⟨vp, vc, rfl⟩, up, uc, rfl⟩ := F.slices
  have HB1 := hid (((Below.refl w.heap.size w).alloc (Nat.le_refl _) (.cells #[.string p, .slice vp R.length vc, .slice up X.length uc] 24)).alloc (by simp) (.cells #[.string ⟨#[]⟩, .slice none 0 0, .slice none 0 0] 24))
  have HC1 := hid (fun W (hW : MsAt W (.slice vp R.length vc) R) => clone_any (.slice vp R.length vc) R W F.rn hW hz)
  have HC2 := hid (fun W (hW : MsAt W (.slice up X.length uc) X) => clone_any (.slice up X.length uc) X W F.xn hW hx)
  have HF := hid F
  clear F hz hx
  go_enter Tryz.func39, Tryz.ntmps39
  have HBX := hid (show Below (w.heap.size + 1 + 1) ((w.alloc (.cells #[.string p, .slice vp R.length vc, .slice up X.length uc] 24)).alloc (.cells #[.string ⟨#[]⟩, .slice none 0 0, .slice none 0 0] 24)) ((w.alloc (.cells #[.string p, .slice vp R.length vc, .slice up X.length uc] 24)).alloc (.cells #[.string ⟨#[]⟩, .slice none 0 0, .slice none 0 0] 24)).drew from below_drawn_of (Below.refl _ _) 1)
  have HBD := hid (show Below w.heap.size w ((w.alloc (.cells #[.string p, .slice vp R.length vc, .slice up X.length uc] 24)).alloc (.cells #[.string ⟨#[]⟩, .slice none 0 0, .slice none 0 0] 24)).drew from below_drawn_of HB1.out 1)
  have HSZ := hid (show ((w.alloc (.cells #[.string p, .slice vp R.length vc, .slice up X.length uc] 24)).alloc (.cells #[.string ⟨#[]⟩, .slice none 0 0, .slice none 0 0] 24)).drew.heap.size = w.heap.size + 1 + 1 by simp)
  have HM1 := hid (HF.out.r.below HBD.out)
  go_wp2_with fail
  go_region_held3 (fun W => W.cell? ⟨w.heap.size, 0, none⟩ = some (.string p) ∧ W.cell? ⟨w.heap.size, 1, none⟩ = some (.slice vp R.length vc) ∧ W.cell? ⟨w.heap.size, 2, none⟩ = some (.slice up X.length uc))
    (first | exact HK2.out | exact HK1.out | go_keep)
    (first
      | (go_at_call_of 64 (Value.slice vp R.length vc); refine (HC1.out _ HM1.out).mono ?_; rintro e w1 ⟨v1, rfl, ho, hzv, hb⟩; have HO1 := hid ho; have HZV := hid hzv; clear hzv; have HBa := hid (HBX.out.trans (hb.mono (Nat.le_of_eq HSZ.out.symm))); have HBb := hid (HBD.out.trans (hb.mono HBD.out.size)); have HK1 := hid (two3 HBa.out).1; clear ho hb)
      | (go_at_call_of 64 (Value.slice up X.length uc); refine (HC2.out _ (HF.out.x.below HBb.out)).mono ?_; rintro e w2 ⟨u1, rfl, ho, hzu, hb⟩; have HO2 := hid ho; have HZU := hid hzu; clear hzu; have HBc := hid (HBa.out.trans (hb.mono (cp_size HBa.out))); have HBd := hid (HBb.out.trans (hb.mono HBb.out.size)); have HO3 := hid (owns_below HO1.out hb); have HK2 := hid (two3 HBc.out).1; clear ho hb; obtain ⟨_, ⟨r0, r1, r2⟩, rf, rz⟩ := two3 HBc.out; obtain ⟨va, vn, vc2, rfl⟩ := own_sl HO1.out; obtain ⟨ua, un, uc2, rfl⟩ := own_sl HO2.out))
  all_goals
    go_wp2_with fail
    refine bodyPost_ret (v := .agg #[.string p, .slice va vn vc2, .slice ua un uc2]) (by simp [results, Tryz.results39, go_sem, r0, r1, r2]) rfl ?_
    have hblk := two3b HBc.out
    refine ⟨_, _, rfl, put3_owns (own_base HO3.out HBD.out.size) (own_ne2 HO3.out hblk (by decide)), put3_owns (own_base HO2.out HBb.out.size) (own_ne2 HO2.out hblk (by decide)), fun g hg hu => ?_, put3_below HBd.out (by omega), HZV.out, HZU.out⟩
    have e1 := (own_lt HO1.out hg).1
    have e2 := (own_lt HO2.out hu).2
    omega
end Ve
end Go.Proofs.YtjphlclhkaoipaaGreatDoor

/-
  What slices.Insert answers at modules, in a row of the call's own, of one module.
-/
namespace Go.Proofs.YtjphlclhkaoipaaGreatDoor
open Go.RowKit
namespace Ve

/-- copy at modules, into a row that is known whole. -/
theorem copy_row2 (w : World) (ty : TypeId) (g o dLen dCap : Nat) (a : Addr) (sLen sCap k : Nat) (cur : Array Value) (t : TypeId) (cs : List Value) (hk : Nat.min sLen dLen = k)
    (hg : w.heap[g]? = some (.cells cur t (0, 0))) (hn : cs.length = k * 2) (hsrc : ∀ j v, cs[j]? = some v → w.cell? (a.add j) = some v) (hfit : o + cs.length ≤ cur.size) (h1 : ∀ v ∈ cs, v.oneCell' = true) :
    (Builtin.copy_ #[22, 22] ty #[.slice (some ⟨g, o, none⟩) dLen dCap, .slice (some a) sLen sCap]).run Tryz.prog w =
      .ok (goInt k) (w.setRow g (cur.toList.take o ++ cs ++ cur.toList.drop (o + cs.length)).toArray) := by
  have hl := run_loadCells_list (P := Tryz.prog) w a cs hsrc
  have hst := run_storeCells_at Tryz.prog g o t cs 0 cur w hg (by simpa using hfit) h1
  obtain ⟨i0, hi, hz0, hz1, hz2⟩ := info_parts infoMod
  simp [Builtin.copy_, run_underlying Tryz.underlying22, Builtin.lenOf, Builtin.firstCells, Go.sizeOf, typeInfo, hi, hz1, hk, ← hn, hl, hst]
theorem setRow_at {w : World} {g : Nat} {cur x : Array Value} {t : TypeId} {fr : Nat × Nat} (h : w.heap[g]? = some (.cells cur t fr)) : (w.setRow g x).heap[g]? = some (.cells x t fr) := setRow_heap w g cur x t fr h
theorem setRow_far {w : World} {g k : Nat} {x : Array Value} (h : k ≠ g) : (w.setRow g x).heap[k]? = w.heap[k]? := by
  unfold World.setRow
  simp only [Array.getElem?_modify]
  rw [if_neg (fun e => h e.symm)]
theorem setRow_size (w : World) (g : Nat) (x : Array Value) : (w.setRow g x).heap.size = w.heap.size := by
  unfold World.setRow; simp
/-- What an insertion leaves behind it. -/
structure Insd (B : Nat) (W w' : World) (v v' : Value) (R : List Bm) : Prop where
  own : w'.ownsRow B 26 2 v' R.length (flatM R)
  gr : W.grownBy w' v.ownBlock
  at_ : v'.ownBlock = v.ownBlock ∨ ∀ g, v'.ownBlock = some g → W.heap.size ≤ g
theorem flat_cons (m : Bm) (L : List Bm) : flatM (m :: L) = [Value.string m.1, .string m.2] ++ flatM L := rfl
theorem flat_take (L : List Bm) (i : Nat) (h : i ≤ L.length) : (flatM L).take (i * 2) = flatM (L.take i) := by
  have e : flatM L = flatM (L.take i) ++ flatM (L.drop i) := by rw [← flatM_app, List.take_append_drop]
  have hl : (flatM (L.take i)).length = i * 2 := by rw [flatM_len]; simp; omega
  rw [e, ← hl, List.take_left]
theorem flat_drop (L : List Bm) (i : Nat) (h : i ≤ L.length) : (flatM L).drop (i * 2) = flatM (L.drop i) := by
  have e : flatM L = flatM (L.take i) ++ flatM (L.drop i) := by rw [← flatM_app, List.take_append_drop]
  have hl : (flatM (L.take i)).length = i * 2 := by rw [flatM_len]; simp; omega
  rw [e, ← hl, List.drop_left]

theorem ins_done {B g cap : Nat} {W w' : World} {v : Value} {R : List Bm} {m : Bm} (hown : w'.ownsRow B 26 2 (.slice (some ⟨g, 0, none⟩) (R.length + 1) cap) (R.length + 1) (flatM R ++ [.string m.1, .string m.2])) (hg : W.grownBy w' v.ownBlock) (hat : v.ownBlock = some g ∨ g = W.heap.size) :
    Insd B W w' v (.slice (some ⟨g, 0, none⟩) (R.length + 1) cap) (R ++ [m]) := by
  refine ⟨?_, hg, ?_⟩
  · rw [List.length_append, flatM_app]; exact hown
  · rcases hat with h | h
    · exact Or.inl h.symm
    · refine Or.inr (fun k hk => ?_)
      have : g = k := by simpa [Value.ownBlock] using hk
      omega
set_option maxHeartbeats 2000000 in
set_option maxRecDepth 100000 in
/-- At the end. -/
theorem ins_end (R : List Bm) (m : Bm) (v : Value) (B vb : Nat) (w : World) (hn : R.length ≤ 1000000) (hB : B ≤ w.heap.size) (ho : w.ownsRow B 26 2 v R.length (flatM R)) (hv : w.heap[vb]? = some (.cells #[.string m.1, .string m.2] 26 (0, 0))) :
    Calls Tryz.prog 41 #[v, .int .i64 R.length, .slice (some ⟨vb, 0, none⟩) 1 1] w fun e w' => ∃ v', e = .returned v' ∧ Insd B w w' v v' (R ++ [m]) := by
  obtain ⟨i0, hi, hz0, hz1, hz2⟩ := info_parts infoMod
  obtain ⟨a, cap, rfl⟩ : ∃ a c, v = .slice a R.length c := by
    obtain ⟨a, c, e, _⟩ := own_ms ho
    exact ⟨a, c, e⟩
  have HCP := hid (show R.length ≤ cap from by
    obtain ⟨a, c, e, h, _⟩ := own_ms ho
    injection e with _ _ e3
    omega)
  have HO := hid ho
  have HV := hid hv
  have HB := hid hB
  clear ho hv hB
  have hcc : (R.length : Int) ≤ (cap : Int) := by have := HCP.out; omega
  by_cases hce : cap = R.length
  · subst hce
    go_enter Tryz.func41, Tryz.ntmps41
    go_wp2_with (at_builtin; refine wpList_append_lies _ rfl _ _ 22 rfl B 26 i0 _ 2 32 Tryz.underlying22 hi hz0 hz1 hz2 rfl (by decide) _ _ _ rfl HO.out ⟨vb, 0, none⟩ 1 1 [.string m.1, .string m.2] rfl rfl (World.news_of_block (cs := #[.string m.1, .string m.2]) HV.out) (by simp [Value.oneCell']) (by omega) (by unfold maxLen; omega) (by omega) HB.out w.heap.size rfl ?_)
    intro g cap2 w2 hown hgrow hat hlt
    have HQ := hid (ins_done (m := m) hown hgrow hat)
    clear hown hgrow hat hlt
    go_wp2_with fail
    go_ret
    exact ⟨_, rfl, HQ.out⟩
  · have hcn : ¬ R.length = cap := fun e => hce e.symm
    cases a with
    | none =>
      have h0 : R = [] ∧ cap = 0 := by
        obtain ⟨_, ⟨h1, h2⟩ | ⟨g, c, cur, h1, _⟩⟩ := HO.out
        · injection h1 with _ _ h3
          exact ⟨List.length_eq_zero_iff.1 h2, h3⟩
        · cases h1
      exact absurd (by rw [h0.1, h0.2]; rfl) hce
    | some a =>
      obtain ⟨ab, ao, asp⟩ := a
      go_enter Tryz.func41, Tryz.ntmps41
      go_wp2_with (at_builtin; refine wpList_append_lies _ rfl _ _ 22 rfl B 26 i0 _ 2 32 Tryz.underlying22 hi hz0 hz1 hz2 rfl (by decide) _ _ _ rfl HO.out ⟨vb, 0, none⟩ 1 1 [.string m.1, .string m.2] rfl rfl (World.news_of_block (cs := #[.string m.1, .string m.2]) HV.out) (by simp [Value.oneCell']) (by omega) (by unfold maxLen; omega) (by omega) HB.out w.heap.size rfl ?_)
      intro g cap2 w2 hown hgrow hat hlt
      have HQ := hid (ins_done (m := m) hown hgrow hat)
      clear hown hgrow hat hlt
      go_wp2_with fail
      go_ret
      exact ⟨_, rfl, HQ.out⟩
end Ve
end Go.Proofs.YtjphlclhkaoipaaGreatDoor

/-
  What slices.Insert answers at modules ahead of the end: where there is room, and where there is none.
-/
namespace Go.Proofs.YtjphlclhkaoipaaGreatDoor
open Go.RowKit
namespace Ve

theorem row_shift {cur : List Value} {R : List Bm} {m : Bm} {i n : Nat} (hn : R.length = n) (hi : i ≤ n) (hl : (n + 1) * 2 ≤ cur.length) (ht : cur.take (n * 2) = flatM R) :
    let c1 := cur.take ((i + 1) * 2) ++ flatM (R.drop i) ++ cur.drop ((i + 1) * 2 + (flatM (R.drop i)).length)
    let c2 := c1.take (i * 2) ++ [Value.string m.1, .string m.2] ++ c1.drop (i * 2 + 2)
    c1.length = cur.length ∧ c2.length = cur.length ∧ c2.take ((n + 1) * 2) = flatM (R.take i ++ m :: R.drop i) := by
  intro c1 c2
  have hdl : (flatM (R.drop i)).length = (n - i) * 2 := by rw [flatM_len, List.length_drop, hn]
  have h1 : c1.length = cur.length := by
    show (cur.take ((i + 1) * 2) ++ flatM (R.drop i) ++ cur.drop ((i + 1) * 2 + (flatM (R.drop i)).length)).length = _
    simp only [List.length_append, List.length_take, List.length_drop, hdl]
    omega
  have h2 : c2.length = cur.length := by
    show (c1.take (i * 2) ++ [Value.string m.1, .string m.2] ++ c1.drop (i * 2 + 2)).length = _
    simp only [List.length_append, List.length_take, List.length_drop, List.length_cons, List.length_nil]
    omega
  refine ⟨h1, h2, ?_⟩
  have ht1 : c1.take (i * 2) = flatM (R.take i) := by
    show (cur.take ((i + 1) * 2) ++ flatM (R.drop i) ++ cur.drop _).take (i * 2) = _
    rw [List.append_assoc, List.take_append_of_le_length (by simp; omega), List.take_take, show min (i * 2) ((i + 1) * 2) = i * 2 by omega, ← flat_take R i (by omega), ← ht, List.take_take, show min (i * 2) (n * 2) = i * 2 by omega]
  have hd1 : c1.drop (i * 2 + 2) = flatM (R.drop i) ++ cur.drop ((i + 1) * 2 + (flatM (R.drop i)).length) := by
    show (cur.take ((i + 1) * 2) ++ flatM (R.drop i) ++ cur.drop _).drop (i * 2 + 2) = _
    have e : (cur.take ((i + 1) * 2)).length = i * 2 + 2 := by simp; omega
    rw [List.append_assoc, ← e, List.drop_left]
  show (c1.take (i * 2) ++ [Value.string m.1, .string m.2] ++ c1.drop (i * 2 + 2)).take ((n + 1) * 2) = _
  rw [ht1, hd1, flatM_app, flat_cons]
  have hasc : flatM (R.take i) ++ [Value.string m.1, .string m.2] ++ (flatM (R.drop i) ++ cur.drop ((i + 1) * 2 + (flatM (R.drop i)).length)) = (flatM (R.take i) ++ ([Value.string m.1, .string m.2] ++ flatM (R.drop i))) ++ cur.drop ((i + 1) * 2 + (flatM (R.drop i)).length) := by simp
  rw [hasc]
  have hlen : (flatM (R.take i) ++ ([Value.string m.1, .string m.2] ++ flatM (R.drop i))).length = (n + 1) * 2 := by
    simp only [List.length_append, hdl, flatM_len, List.length_take, List.length_cons, List.length_nil]
    omega
  rw [← hlen, List.take_left]
theorem own_of_row {W : World} {B g n cap : Nat} {cur : Array Value} {R : List Bm} (hg : W.heap[g]? = some (.cells cur 26 (0, 0))) (hB : B ≤ g) (hn : R.length = n) (hc : n ≤ cap) (hm : cap ≤ maxLen) (hs : cur.size = cap * 2) (ht : cur.toList.take (n * 2) = flatM R) :
    W.ownsRow B 26 2 (.slice (some ⟨g, 0, none⟩) n cap) n (flatM R) := ⟨by rw [flatM_len, hn], Or.inr ⟨g, cap, cur, rfl, hB, hg, hc, hm, hs, ht⟩⟩

set_option maxHeartbeats 4000000 in
set_option maxRecDepth 100000 in
/-- There is room. -/
theorem ins_room (R : List Bm) (m : Bm) (B g cap vb i : Nat) (cur : Array Value) (w : World) (hn : R.length ≤ 1000000) (hB : B ≤ g) (hg : w.heap[g]? = some (.cells cur 26 (0, 0))) (hcm : cap ≤ maxLen) (hcs : cur.size = cap * 2) (hct : cur.toList.take (R.length * 2) = flatM R)
    (hv : w.heap[vb]? = some (.cells #[.string m.1, .string m.2] 26 (0, 0))) (hvg : vb ≠ g) (hi : i < R.length) (hroom : R.length + 1 ≤ cap) :
    Calls Tryz.prog 41 #[.slice (some ⟨g, 0, none⟩) R.length cap, .int .i64 i, .slice (some ⟨vb, 0, none⟩) 1 1] w fun e w' => ∃ v', e = .returned v' ∧ Insd B w w' (.slice (some ⟨g, 0, none⟩) R.length cap) v' (R.take i ++ m :: R.drop i) := by
  have HRS := hid (row_shift (cur := cur.toList) (R := R) (m := m) (i := i) (n := R.length) rfl (by omega) (by simp; omega) hct)
  have hz2 : ¬ ((i : Int) = (R.length : Int)) := by omega
  have hz3 : ¬ ((cap : Int) < (R.length : Int) + 1) := by omega
  have hov : ∀ lb cb, (callFunc 68 #[.slice (some ⟨vb, 0, none⟩) 1 1, .slice (some ⟨g, (i + 1) * 2, none⟩) lb cb]).run Tryz.prog w = .ok (.value (.bool false)) w := fun lb cb => by
    rw [run_callFunc_extern Tryz.func68 (by kernel_rfl) (by kernel_rfl) (by kernel_rfl) (e := Extern.SlicesOverlaps.overlaps #[22, 22] #[4]) (by kernel_rfl),
      Lib.run_overlaps_apart w 22 4 26 Tryz.underlying22 2 Tryz.sizeOf26 ⟨vb, 0, none⟩ ⟨g, (i + 1) * 2, none⟩ 1 1 lb cb hvg 26 26 2 (cap * 2) (by simp [World.shape?, hv]) (by simp [World.shape?, hg, hcs]) (by omega) (Lib.frozen_of_heap hv 0) (Lib.frozen_of_heap hv 2)]
    rfl
  have hdl : (flatM (R.drop i)).length = (R.length - i) * 2 := by rw [flatM_len, List.length_drop]
  have hcp1 : ∀ ty dl dc sl sc, Nat.min sl dl = R.length - i → (Builtin.copy_ #[22, 22] ty #[.slice (some ⟨g, (i + 1) * 2, none⟩) dl dc, .slice (some ⟨g, i * 2, none⟩) sl sc]).run Tryz.prog w.drew = .ok (goInt ((R.length - i : Nat) : Int)) (w.drew.setRow g (cur.toList.take ((i + 1) * 2) ++ flatM (R.drop i) ++ cur.toList.drop ((i + 1) * 2 + (flatM (R.drop i)).length)).toArray) := fun ty dl dc sl sc hmin =>
    copy_row2 w.drew ty g ((i + 1) * 2) dl dc ⟨g, i * 2, none⟩ sl sc (R.length - i) cur 26 (flatM (R.drop i)) hmin hg (by rw [hdl]) (fun j u hj => by
      rw [Addr.add_lit]
      have h1 : w.drew.cell? ⟨g, i * 2 + j, none⟩ = cur[i * 2 + j]? := Lib.cell_of_heap (w := w.drew) hg _
      rw [h1]
      have hjl : j < (R.length - i) * 2 := by rw [← hdl]; exact (List.getElem?_eq_some_iff.1 hj).1
      rw [← flat_drop R i (by omega), List.getElem?_drop, ← hct, List.getElem?_take, if_pos (by omega)] at hj
      simpa using hj) (by rw [hdl]; omega) (flat_one _)
  obtain ⟨C1, hC1⟩ : ∃ C1, C1 = cur.toList.take ((i + 1) * 2) ++ flatM (R.drop i) ++ cur.toList.drop ((i + 1) * 2 + (flatM (R.drop i)).length) := ⟨_, rfl⟩
  rw [← hC1] at hcp1 HRS
  have hg1 : (w.drew.setRow g C1.toArray).heap[g]? = some (.cells C1.toArray 26 (0, 0)) := setRow_at (w := w.drew) hg
  have hv1 : (w.drew.setRow g C1.toArray).heap[vb]? = some (.cells #[.string m.1, .string m.2] 26 (0, 0)) := by rw [setRow_far hvg]; exact hv
  obtain ⟨C2, hC2⟩ : ∃ C2 : Array Value, C2 = (C1.take (i * 2) ++ [Value.string m.1, .string m.2] ++ C1.drop (i * 2 + 2)).toArray := ⟨_, rfl⟩
  have hcp2 : ∀ (W : World), W.heap = (w.drew.setRow g C1.toArray).heap → ∀ ty dc, (Builtin.copy_ #[22, 22] ty #[.slice (some ⟨g, i * 2, none⟩) (R.length + 1 - i) dc, .slice (some ⟨vb, 0, none⟩) 1 1]).run Tryz.prog W = .ok (goInt 1) (W.setRow g C2) := fun W hW ty dc => by
    rw [hC2]
    have := copy_row2 W ty g (i * 2) (R.length + 1 - i) dc ⟨vb, 0, none⟩ 1 1 1 C1.toArray 26 [Value.string m.1, .string m.2] (by simp only [Nat.min_def]; split <;> omega) (by rw [hW]; exact hg1) rfl (World.news_of_block (cs := #[.string m.1, .string m.2]) (by rw [hW]; exact hv1)) (by have := HRS.out.1; simp at this ⊢; omega) (by simp [Value.oneCell'])
    simpa using this
  have hw1 : IntKind.i64.wrap ((i : Int) + 1) = (i : Int) + 1 := by rw [IntKind.wrap_i64]; omega
  have hb1 : (0 : Int) ≤ (i : Int) + 1 := by omega
  have hin : i ≤ R.length := by omega
  have htn : ((i : Int) + 1).toNat = i + 1 := by omega
  have hb2 : ¬ (cap = i + 1) := by omega
  have hb3 : (i : Int) ≤ (R.length : Int) + 1 := by omega
  have hb4 : ¬ (cap = i) := by omega
  have hb5 : (i : Int) + 1 ≤ (R.length : Int) + 1 := by omega
  have hb6 : (R.length : Int) + 1 ≤ (cap : Int) := by omega
  have HFI := hid (show Insd B w ((w.drew.setRow g C1.toArray).setRow g C2) (.slice (some ⟨g, 0, none⟩) R.length cap) (.slice (some ⟨g, 0, none⟩) (R.length + 1) cap) (R.take i ++ m :: R.drop i) from by
    have hl : (R.take i ++ m :: R.drop i).length = R.length + 1 := by simp; omega
    rw [hC2]
    refine ⟨?_, ⟨rfl, rfl, rfl, by rw [setRow_size, setRow_size]; exact Nat.le_refl _, fun k hk hne => ?_⟩, Or.inl rfl⟩
    · rw [hl]
      exact own_of_row (setRow_at hg1) hB hl (by omega) hcm (by have := HRS.out.2.1; simp at this ⊢; omega) (by have := HRS.out.2.2; simpa using this)
    · have : k ≠ g := fun e => hne (by rw [e]; rfl)
      rw [setRow_far this, setRow_far this]; rfl)
  have HCP1 := hid (hcp1 3 (R.length - i) (cap - (i + 1)) (R.length + 1 - i) (cap - i) (by simp only [Nat.min_def]; split <;> omega))
  clear hC1 hC2 hdl hct hcs hg hv hg1 hv1 HRS hcp1
  go_enter Tryz.func41, Tryz.ntmps41
  go_wp2_with (simp only [hov])
  go_region_law (refine step_copy_runI rfl _ _ 22 22 rfl (.slice (some ⟨g, (i + 1) * 2, none⟩) (R.length - i) (cap - (i + 1))) (.slice (some ⟨g, i * 2, none⟩) (R.length + 1 - i) (cap - i)) (by simp [Act.eval, Act.put]) (by simp [Act.eval, Act.put]) HCP1.out ?_)
  go_wp2_with (at_builtin; refine wpList_copy_runI _ rfl _ _ 22 22 rfl _ _ rfl rfl (hcp2 _ rfl _ _) ?_)
  go_ret
  exact ⟨_, rfl, HFI.out⟩
end Ve
end Go.Proofs.YtjphlclhkaoipaaGreatDoor
