/-
  FileF
-/
import Derived.Test.YtiebgeamfblbdaaGreatDoorFb27
import Derived.Test.YtiebgeamfblbdaaGreatDoorFb29
namespace Go.Proofs.YtiebgeamfblbdaaGreatDoor
open Go.RowKit
namespace Ve
theorem isB_below {T e : TypeId} {B b : Nat} {bs : List Value} {w w' : World} (h : Lib.IsBuilder T e B b bs w) (hb : Below w.heap.size w w') : Lib.IsBuilder T e B b bs w' := by
  have go : ∀ p, Lib.BuilderAt T e B b p bs w → Lib.BuilderAt T e B b p bs w' := fun p h => by
    have hlt := h.lt
    obtain ⟨h1, v, h2, h3, h4⟩ := h
    exact ⟨h1, v, by rw [hb.block _ hlt]; exact h2, owns_below h3 hb, h4⟩
  rcases h with h | h
  · exact Or.inl (go _ h)
  · exact Or.inr (go _ h)
theorem bytes_app (a b : List UInt8) : Lib.byteCells (a ++ b) = Lib.byteCells a ++ Lib.byteCells b := by simp [Lib.byteCells]
theorem bytes_len (a : List UInt8) : (Lib.byteCells a).length = a.length := by simp [Lib.byteCells]
theorem ended_snoc (ls : List (List UInt8)) (l : List UInt8) : ended (ls ++ [l]) = ended ls ++ (l ++ [10]) := by simp [ended]
theorem ended_app (a b : List (List UInt8)) : ended (a ++ b) = ended a ++ ended b := by simp [ended]
theorem take_next {L : List Bm} {k : Nat} (h : k < L.length) (f : Bm → List UInt8) : (L.take (k + 1)).map f = (L.take k).map f ++ [f L[k]] := by
  rw [List.take_succ_eq_append_getElem h, List.map_append]; rfl
theorem ended_bd {L : List Bm} (hs : shortL L) {word : List UInt8} (hw : word.length ≤ 100) (k : Nat) : (ended ((L.take k).map (lineOf word))).length ≤ 3000000 * k := by
  have h := ended_len 2999999 ((L.take k).map (lineOf word)) (fun l hl => by
    obtain ⟨m, hm, rfl⟩ := List.mem_map.1 hl
    have := hs m (List.mem_of_mem_take hm)
    simp [lineOf]; omega)
  simp only [List.length_map] at h
  have h2 : (L.take k).length ≤ k := by simp; omega
  have : (L.take k).length * (2999999 + 1) ≤ k * (2999999 + 1) := Nat.mul_le_mul_right _ h2
  omega
set_option maxHeartbeats 1000000 in
theorem wmods_some (word : ByteArray) (L : List Bm) (b o c bb : Nat) (l : List UInt8) (w0 w : World) (hw : word.data.toList.length ≤ 100) (hL : L.length ≤ 1000000) (hs : shortL L) (hl : l.length ≤ 10000000000000)
    (hc : ∀ j (h : j < L.length), w0.cell? ⟨b, o + j * 2, none⟩ = some (.string L[j].1) ∧ w0.cell? ⟨b, o + j * 2 + 1, none⟩ = some (.string L[j].2)) (hb : Below w0.heap.size w0 w) (hB : Lib.IsBuilder 48 5 w0.heap.size bb (Lib.byteCells l) w) :
    Calls Tryz.prog 20 #[.pointer (some ⟨bb, 0, none⟩), .string word, .slice (some ⟨b, o, none⟩) L.length c] w fun e w' => e = .returned (.tuple #[]) ∧ Lib.IsBuilder 48 5 w0.heap.size bb (Lib.byteCells (l ++ ended (L.map (lineOf word.data.toList)))) w' ∧ Below w0.heap.size w0 w' := by
  have HC := hid hc
  have HB := hid hb
  have HI := hid hB
  have HWZ := hid hw
  have HLZ := hid hl
  have HSZ := hid hs
  clear hc hb hB hw hl hs
  go_enter Tryz.func20, Tryz.ntmps20
  go_wp2_with fail
  go_loopw [10] (fun i wr => ∃ k : Nat, k ≤ L.length ∧ i = .int .i64 k ∧ Hid (Below w0.heap.size w0 wr) ∧ Hid (Lib.IsBuilder 48 5 w0.heap.size bb (Lib.byteCells (l ++ ended ((L.take k).map (lineOf word.data.toList)))) wr)) (fun i _ => L.length - (intOf i).toNat)
  case atStart => exact ⟨0, Nat.zero_le _, rfl, HB, hid (by rw [List.take_zero, List.map_nil, show ended [] = [] from rfl, List.append_nil]; exact HI.out)⟩
  case round =>
    obtain ⟨k, hk, rfl, HR, HS⟩ := hrel
    by_cases hlt : k < L.length
    · have hx := cell_below HR.out (HC.out k hlt).1
      have hy := cell_below HR.out (HC.out k hlt).2
      have HLT := hid hlt
      have HZ := hid (HSZ.out L[k] (List.getElem_mem hlt))
      have HTN := hid (take_next hlt (lineOf word.data.toList))
      have HBD := hid (ended_bd HSZ.out HWZ.out k)
      generalize L[k] = x at *
      obtain ⟨p, v⟩ := x
      have HBa := hid (HR.out.alloc HR.out.size (.cells #[.string p, .string v] 26))
      have HIa := hid (isB_below HS.out ((Below.refl wr.heap.size wr).alloc (Nat.le_refl _) (.cells #[.string p, .string v] 26)))
      have h1 : p.size < 999999 := HZ.out.1
      have h2 : v.size < 999999 := HZ.out.2
      have h3 : word.size ≤ 100 := by have := HWZ.out; simp at this; exact this
      have HSE := hid (show (word ++ (⟨#[32]⟩ : ByteArray) ++ p ++ (⟨#[32]⟩ : ByteArray) ++ v ++ (⟨#[10]⟩ : ByteArray)).data.toList = lineOf word.data.toList (p, v) ++ [10] by simp [lineOf])
      have HSZ2 := hid (show (word ++ (⟨#[32]⟩ : ByteArray) ++ p ++ (⟨#[32]⟩ : ByteArray) ++ v ++ (⟨#[10]⟩ : ByteArray)).size ≤ 3000000 by
        rw [← len_eq, HSE.out]; simp [lineOf]; omega)
      go_wp2_with fail
      refine (write_any w0.heap.size bb _ _ _ HIa.out (by
        have e1 := HSZ2.out
        have e2 := HBD.out
        have e3 := HLZ.out
        rw [bytes_len, List.length_append]
        have e4 : 3000000 * k ≤ 3000000 * 1000000 := Nat.mul_le_mul_left _ (by omega)
        omega) HBa.out.size).mono ?_
      rintro e w1 ⟨rfl, hI, hb1⟩
      have HI1 := hid (show Lib.IsBuilder 48 5 w0.heap.size bb (Lib.byteCells (l ++ ended ((L.take (k + 1)).map (lineOf word.data.toList)))) w1 by
        rw [HTN.out, ended_snoc, ← List.append_assoc, bytes_app (l ++ _), ← HSE.out]
        exact Or.inr hI)
      have HB1 := hid (HBa.out.trans hb1)
      clear hI hb1
      go_wp2_with fail
      go_roundw
      case rel => exact ⟨k + 1, by have := HLT.out; omega, by go_num, HB1, HI1⟩
      case measure => have := HLT.out; simp [intOf]; omega
    · have HE := hid (show L.take k = L from List.take_of_length_le (by omega))
      go_wp2_with fail
      go_end0
      exact ⟨rfl, by have h := HS.out; rw [HE.out] at h; exact h, HR.out⟩
theorem wmods_none (word : ByteArray) (a : Option Addr) (c bb : Nat) (w : World) :
    Calls Tryz.prog 20 #[.pointer (some ⟨bb, 0, none⟩), .string word, .slice a 0 c] w fun e w' => e = .returned (.tuple #[]) ∧ w' = w := by
  go_enter Tryz.func20, Tryz.ntmps20
  go_wp2_with fail
  go_loopw [10] (fun i wr => i = .int .i64 0 ∧ wr = w) (fun i _ => 0)
  case atStart => exact ⟨rfl, rfl⟩
  case round =>
    obtain ⟨rfl, rfl⟩ := hrel
    go_wp2_with fail
    go_end0
    exact ⟨rfl, rfl⟩
theorem wmods_any (word : ByteArray) (L : List Bm) (v : Value) (bb : Nat) (l : List UInt8) (w0 w : World) (hw : word.data.toList.length ≤ 100) (hL : L.length ≤ 1000000) (hs : shortL L) (hl : l.length ≤ 10000000000000)
    (hv : MsAt w0 v L) (hb : Below w0.heap.size w0 w) (hB : Lib.IsBuilder 48 5 w0.heap.size bb (Lib.byteCells l) w) :
    Calls Tryz.prog 20 #[.pointer (some ⟨bb, 0, none⟩), .string word, v] w fun e w' => e = .returned (.tuple #[]) ∧ Lib.IsBuilder 48 5 w0.heap.size bb (Lib.byteCells (l ++ ended (L.map (lineOf word.data.toList)))) w' ∧ Below w0.heap.size w0 w' := by
  obtain ⟨a, c, rfl, _, h⟩ := hv
  cases L with
  | nil => exact (wmods_none word a c bb w).mono fun e w' ⟨h1, h2⟩ => ⟨h1, by rw [h2, List.map_nil, show ended [] = [] from rfl, List.append_nil]; exact hB, by rw [h2]; exact hb⟩
  | cons x r =>
    obtain ⟨b, o, rfl, h2⟩ := h (by simp)
    exact wmods_some word (x :: r) b o c bb l w0 w hw hL hs hl h2 hb hB
theorem errAt_nil {W : World} {A : Nat → Addr} {x : Value} {o : Option Nat} (h : ErrAt W A x 0 o) : x = .nilIface := by
  cases o with
  | none => exact h
  | some i => exact absurd rfl h.1
theorem errAt_iface {W : World} {A : Nat → Addr} {x : Value} {c : Nat} {o : Option Nat} (h : ErrAt W A x c o) (hc : c ≠ 0) : ∃ T a, x = .iface T (.pointer (some a)) := by
  cases o with
  | none => exact ⟨_, _, h.trans (errA_if A hc)⟩
  | some i =>
    obtain ⟨_, b, e, _⟩ := h
    exact ⟨_, _, e⟩
theorem fText_is (p : ByteArray) (R X : List Bm) : fText (p, R, X) = wModule ++ 32 :: p.data.toList ++ [10] ++ ended (R.map (lineOf wRequire)) ++ ended (X.map (lineOf wExclude)) := by
  unfold fText linesOf
  rw [show ∀ (a : List UInt8) (r : List (List UInt8)), ended (a :: r) = (a ++ [10]) ++ ended r from fun a r => by simp [ended], ended_app]
  simp
set_option maxHeartbeats 1000000 in
theorem ftext_bad (p : ByteArray) (R X : List Bm) (v u : Value) (A : Nat → Addr) (m : Int) (w : World) (hp : p.size < 999999) (S : Te w A m) (F : Fl w R X v u) (h : (fileF p R X).1 ≠ 0) :
    Calls Tryz.prog 8 #[.agg #[.string p, v, u]] w fun e w' => e = .returned (.string ⟨#[]⟩) ∧ Below w.heap.size w w' := by
  obtain ⟨⟨vp, vc, rfl⟩, up, uc, rfl⟩ := F.slices
  have HB0 := hid ((Below.refl w.heap.size w).alloc (Nat.le_refl _) (.cells #[.string p, .slice vp R.length vc, .slice up X.length uc] 24))
  have HC := hid (fcheck_any p R X _ _ A m _ hp (S.below HB0.out) (F.below HB0.out))
  have HN := hid h
  clear S F h
  go_enter Tryz.func8, Tryz.ntmps8
  go_wp2_with fail
  refine HC.out.mono ?_
  rintro e w1 ⟨x, rfl, he, hb⟩
  obtain ⟨T, a, rfl⟩ := errAt_iface he HN.out
  have HB := hid (HB0.out.trans (hb.mono HB0.out.size))
  clear hb he
  go_wp2_with fail
  go_ret
  exact ⟨rfl, HB.out⟩
set_option maxHeartbeats 1000000 in
theorem ftext_ok (p : ByteArray) (R X : List Bm) (v u : Value) (A : Nat → Addr) (m : Int) (w : World) (hp : p.size < 999999) (S : Te w A m) (F : Fl w R X v u) (h : (fileF p R X).1 = 0) :
    Calls Tryz.prog 8 #[.agg #[.string p, v, u]] w fun e w' => e = .returned (.string (bt (fText (p, R, X)))) ∧ Below w.heap.size w w' := by
  obtain ⟨⟨vp, vc, rfl⟩, up, uc, rfl⟩ := F.slices
  have HB0 := hid ((Below.refl w.heap.size w).alloc (Nat.le_refl _) (.cells #[.string p, .slice vp R.length vc, .slice up X.length uc] 24))
  have HF := hid (F.below HB0.out)
  have HC := hid (fcheck_any p R X _ _ A m _ hp (S.below HB0.out) HF.out)
  rw [h] at HC
  clear S F h
  go_enter Tryz.func8, Tryz.ntmps8
  go_wp2_with fail
  refine HC.out.mono ?_
  rintro e w1 ⟨x, rfl, he, hb⟩
  obtain rfl := errAt_nil he
  have HBa := hid (hb.mono (show w.heap.size + 1 ≤ _ by simp))
  have HB := hid (HB0.out.trans (hb.mono HB0.out.size))
  have HF1 := hid (HF.out.below hb)
  have HI := hid (Lib.fresh_isBuilder 48 5 w1)
  have HBb := hid ((Below.refl w1.heap.size w1).alloc (Nat.le_refl _) (.cells #[.pointer none, .slice none 0 0] 48))
  obtain ⟨⟨r0, r1, r2⟩, rz⟩ := res3 HBa.out
  have s0 := cell_below HBb.out r0
  clear hb he
  have HSE := hid (show ((⟨#[109, 111, 100, 117, 108, 101, 32]⟩ : ByteArray) ++ p ++ (⟨#[10]⟩ : ByteArray)).data.toList = wModule ++ 32 :: p.data.toList ++ [10] by simp [wModule])
  have HSZ := hid (show ((⟨#[109, 111, 100, 117, 108, 101, 32]⟩ : ByteArray) ++ p ++ (⟨#[10]⟩ : ByteArray)).size ≤ 1000100 by rw [← len_eq, HSE.out]; simp [wModule]; omega)
  go_wp2_with fail
  refine (write_any w1.heap.size w1.heap.size [] _ _ HI.out (by have := HSZ.out; simp only [List.length_nil]; omega) HBb.out.size).mono ?_
  rintro e w2 ⟨rfl, hI, hb2⟩
  have HI2 := hid (show Lib.IsBuilder 48 5 w1.heap.size w1.heap.size (Lib.byteCells (wModule ++ 32 :: p.data.toList ++ [10])) w2 by rw [← HSE.out]; exact Or.inr hI)
  have HB2 := hid (HBb.out.trans hb2)
  have t1 := cell_below HB2.out r1
  have t2 := cell_below HB2.out r2
  clear hI hb2 s0
  go_wp2_with fail
  refine (wmods_any ⟨#[114, 101, 113, 117, 105, 114, 101]⟩ R _ w1.heap.size _ w1 w2 (by decide) HF1.out.rn HF1.out.rs (by simp [wModule]; omega) HF1.out.r HB2.out HI2.out).mono ?_
  rintro e w3 ⟨rfl, hI, hb3⟩
  have HI3 := hid hI
  have HB3 := hid hb3
  have q2 := cell_below HB3.out r2
  clear hI hb3 t1 t2
  go_wp2_with fail
  refine (wmods_any ⟨#[101, 120, 99, 108, 117, 100, 101]⟩ X _ w1.heap.size _ w1 w3 (by decide) HF1.out.xn HF1.out.xs (by
    have e1 := ended_bd HF1.out.rs (word := wRequire) (by decide) R.length
    rw [List.take_length] at e1
    have e2 : 3000000 * R.length ≤ 3000000 * 1000000 := Nat.mul_le_mul_left _ HF1.out.rn
    rw [List.length_append]
    have e3 : (ended (List.map (lineOf [114, 101, 113, 117, 105, 114, 101]) R)).length ≤ 3000000 * R.length := e1
    have e4 : (wModule ++ 32 :: p.data.toList ++ [10]).length ≤ 1000100 := by simp [wModule]; omega
    omega) HF1.out.x HB3.out HI3.out).mono ?_
  rintro e w4 ⟨rfl, hI, hb4⟩
  have HI4 := hid (show Lib.IsBuilder 48 5 w1.heap.size w1.heap.size (Lib.byteCells (fText (p, R, X))) w4 by rw [fText_is]; exact hI)
  have HB4 := hid hb4
  clear hI hb4 q2
  go_wp2_with fail
  refine (Tryz.Builder_String_any w1.heap.size w1.heap.size _ w4 HI4.out HB4.out.size).mono ?_
  rintro e w5 ⟨rfl, hb5⟩
  have HB5 := hid (HB.out.trans ((HB4.out.trans hb5).mono HB.out.size))
  clear hb5
  go_wp2_with fail
  go_ret
  exact ⟨rfl, HB5.out⟩
end Ve
end Go.Proofs.YtiebgeamfblbdaaGreatDoor
