/-
  What Text of package file answers: a file's text, or nothing; nothing old in memory turns.
-/
import Derived.Test.YtmgpbejekglipabGreatDoorJn13
import Derived.Test.YtmgpbejekglipabGreatDoorJn15
import Derived.Test.YtmgpbejekglipabGreatDoorProg
import Derived.WalkKit
import Derived.LaidEql
import Derived.Stop.Asserts
import Derived.RowKitTokens
namespace Go.Proofs.YtmgpbejekglipabGreatDoor
open Go.RowKit
namespace Ve

theorem isB_below {T e : TypeId} {B b : Nat} {bs : List Value} {w w' : World} (h : Lib.IsBuilder T e B b bs w) (hb : Below w.heap.size w w') : Lib.IsBuilder T e B b bs w' := by
  have go : ∀ p, Lib.BuilderAt T e B b p bs w → Lib.BuilderAt T e B b p bs w' := fun p h => by
    have hlt := h.lt
    obtain ⟨h1, v, h2, h3, h4⟩ := h
    exact ⟨h1, v, by rw [hb.block _ hlt]; exact h2, owns_below h3 hb, h4⟩
  rcases h with h | h
  · exact Or.inl (go _ h)
  · exact Or.inr (go _ h)
theorem strCells_is (s : ByteArray) : Lib.strCells s = Lib.byteCells s.data.toList := by
  simp [Lib.strCells, Lib.byteCells]
theorem bytes_app (a b : List UInt8) : Lib.byteCells (a ++ b) = Lib.byteCells a ++ Lib.byteCells b := by simp [Lib.byteCells]
theorem bytes_len (a : List UInt8) : (Lib.byteCells a).length = a.length := by simp [Lib.byteCells]
theorem ended_snoc (ls : List (List UInt8)) (l : List UInt8) : ended (ls ++ [l]) = ended ls ++ (l ++ [10]) := by simp [ended]
theorem ended_app (a b : List (List UInt8)) : ended (a ++ b) = ended a ++ ended b := by simp [ended]
theorem take_next {L : List Bm} {k : Nat} (h : k < L.length) (f : Bm → List UInt8) : (L.take (k + 1)).map f = (L.take k).map f ++ [f L[k]] := by
  rw [List.take_succ_eq_append_getElem h, List.map_append]; rfl
theorem ended_bd {L : List Bm} (hs : shortL L) {word : List UInt8} (hw : word.length ≤ 100) (k : Nat) : (ended ((L.take k).map (lineOf word))).length ≤ 3000000 * k := by
  have h := ended_len 2999999 ((L.take k).map (lineOf word)) (fun l hl => by
    obtain ⟨m, hm, rfl⟩ := List.mem_map.1 hl
    have := hs m (List.mem_of_mem_take hm)
    simp [lineOf]; omega)
  simp only [List.length_map] at h
  have h2 : (L.take k).length ≤ k := by simp; omega
  have : (L.take k).length * (2999999 + 1) ≤ k * (2999999 + 1) := Nat.mul_le_mul_right _ h2
  omega

set_option maxHeartbeats 1000000 in
theorem wmods_some (word : ByteArray) (L : List Bm) (b o c bb : Nat) (l : List UInt8) (w0 w : World) (hw : word.data.toList.length ≤ 100) (hL : L.length ≤ 1000000) (hs : shortL L) (hl : l.length ≤ 10000000000000)
    (hc : ∀ j (h : j < L.length), w0.cell? ⟨b, o + j * 2, none⟩ = some (.string L[j].1) ∧ w0.cell? ⟨b, o + j * 2 + 1, none⟩ = some (.string L[j].2)) (hb : Below w0.heap.size w0 w) (hB : Lib.IsBuilder 87 5 w0.heap.size bb (Lib.byteCells l) w) :
    Calls Tryz.prog 53 #[.pointer (some ⟨bb, 0, none⟩), .string word, .slice (some ⟨b, o, none⟩) L.length c] w fun e w' => e = .returned (.tuple #[]) ∧ Lib.IsBuilder 87 5 w0.heap.size bb (Lib.byteCells (l ++ ended (L.map (lineOf word.data.toList)))) w' ∧ Below w0.heap.size w0 w' := by
  have HC := hid hc
  have HB := hid hb
  have HI := hid hB
  have HWZ := hid hw
  have HLZ := hid hl
  have HSZ := hid hs
  clear hc hb hB hw hl hs
  go_enter Tryz.func53, Tryz.ntmps53
  go_wp2_with fail
  go_loopw [10] (fun i wr => ∃ k : Nat, k ≤ L.length ∧ i = .int .i64 k ∧ Hid (Below w0.heap.size w0 wr) ∧ Hid (Lib.IsBuilder 87 5 w0.heap.size bb (Lib.byteCells (l ++ ended ((L.take k).map (lineOf word.data.toList)))) wr)) (fun i _ => L.length - (intOf i).toNat)
  case atStart => exact ⟨0, Nat.zero_le _, rfl, HB, hid (by rw [List.take_zero, List.map_nil, show ended [] = [] from rfl, List.append_nil]; exact HI.out)⟩
  case round =>
    obtain ⟨k, hk, rfl, HR, HS⟩ := hrel
    by_cases hlt : k < L.length
    · have hx := cell_below HR.out (HC.out k hlt).1
      have hy := cell_below HR.out (HC.out k hlt).2
      have HLT := hid hlt
      have HZ := hid (HSZ.out L[k] (List.getElem_mem hlt))
      have HTN := hid (take_next hlt (lineOf word.data.toList))
      have HBD := hid (ended_bd HSZ.out HWZ.out k)
      generalize L[k] = x at *
      obtain ⟨p, v⟩ := x
      have HBa := hid (HR.out.alloc HR.out.size (.cells #[.string p, .string v] 26))
      have HIa := hid (isB_below HS.out ((Below.refl wr.heap.size wr).alloc (Nat.le_refl _) (.cells #[.string p, .string v] 26)))
      have h1 : p.size < 999999 := HZ.out.1
      have h2 : v.size < 999999 := HZ.out.2
      have h3 : word.size ≤ 100 := by have := HWZ.out; simp at this; exact this
      have HSE := hid (show (word ++ (⟨#[32]⟩ : ByteArray) ++ p ++ (⟨#[32]⟩ : ByteArray) ++ v ++ (⟨#[10]⟩ : ByteArray)).data.toList = lineOf word.data.toList (p, v) ++ [10] by simp [lineOf])
      have HSZ2 := hid (show (word ++ (⟨#[32]⟩ : ByteArray) ++ p ++ (⟨#[32]⟩ : ByteArray) ++ v ++ (⟨#[10]⟩ : ByteArray)).size ≤ 3000000 by
        rw [← len_eq, HSE.out]; simp [lineOf]; omega)
      go_wp2_with fail
      refine (write_any w0.heap.size bb _ _ _ HIa.out (by
        have e1 := HSZ2.out
        have e2 := HBD.out
        have e3 := HLZ.out
        rw [bytes_len, List.length_append]
        have e4 : 3000000 * k ≤ 3000000 * 1000000 := Nat.mul_le_mul_left _ (by omega)
        omega) HBa.out.size).mono ?_
      rintro e w1 ⟨rfl, hI, hb1⟩
      have HI1 := hid (show Lib.IsBuilder 87 5 w0.heap.size bb (Lib.byteCells (l ++ ended ((L.take (k + 1)).map (lineOf word.data.toList)))) w1 by
        rw [HTN.out, ended_snoc, ← List.append_assoc, bytes_app (l ++ _), ← HSE.out]
        exact Or.inr hI)
      have HB1 := hid (HBa.out.trans hb1)
      clear hI hb1
      go_wp2_with fail
      go_roundw
      case rel => exact ⟨k + 1, by have := HLT.out; omega, by go_num, HB1, HI1⟩
      case measure => have := HLT.out; simp [intOf]; omega
    · have HE := hid (show L.take k = L from List.take_of_length_le (by omega))
      go_wp2_with fail
      go_end0
      exact ⟨rfl, by have h := HS.out; rw [HE.out] at h; exact h, HR.out⟩
theorem wmods_none (word : ByteArray) (a : Option Addr) (c bb : Nat) (w : World) :
    Calls Tryz.prog 53 #[.pointer (some ⟨bb, 0, none⟩), .string word, .slice a 0 c] w fun e w' => e = .returned (.tuple #[]) ∧ w' = w := by
  go_enter Tryz.func53, Tryz.ntmps53
  go_wp2_with fail
  go_loopw [10] (fun i wr => i = .int .i64 0 ∧ wr = w) (fun i _ => 0)
  case atStart => exact ⟨rfl, rfl⟩
  case round =>
    obtain ⟨rfl, rfl⟩ := hrel
    go_wp2_with fail
    go_end0
    exact ⟨rfl, rfl⟩
theorem wmods_any (word : ByteArray) (L : List Bm) (v : Value) (bb : Nat) (l : List UInt8) (w0 w : World) (hw : word.data.toList.length ≤ 100) (hL : L.length ≤ 1000000) (hs : shortL L) (hl : l.length ≤ 10000000000000)
    (hv : MsAt w0 v L) (hb : Below w0.heap.size w0 w) (hB : Lib.IsBuilder 87 5 w0.heap.size bb (Lib.byteCells l) w) :
    Calls Tryz.prog 53 #[.pointer (some ⟨bb, 0, none⟩), .string word, v] w fun e w' => e = .returned (.tuple #[]) ∧ Lib.IsBuilder 87 5 w0.heap.size bb (Lib.byteCells (l ++ ended (L.map (lineOf word.data.toList)))) w' ∧ Below w0.heap.size w0 w' := by
  obtain ⟨a, c, rfl, _, h⟩ := hv
  cases L with
  | nil => exact (wmods_none word a c bb w).mono fun e w' ⟨h1, h2⟩ => ⟨h1, by rw [h2, List.map_nil, show ended [] = [] from rfl, List.append_nil]; exact hB, by rw [h2]; exact hb⟩
  | cons x r =>
    obtain ⟨b, o, rfl, h2⟩ := h (by simp)
    exact wmods_some word (x :: r) b o c bb l w0 w hw hL hs hl h2 hb hB

/-- An error, for a test: none, or some. -/
theorem errAt_nil {W : World} {A : Nat → Addr} {x : Value} {o : Option Nat} (h : ErrAt W A x 0 o) : x = .nilIface := by
  cases o with
  | none => exact h
  | some i => exact absurd rfl h.1
theorem errAt_iface {W : World} {A : Nat → Addr} {x : Value} {c : Nat} {o : Option Nat} (h : ErrAt W A x c o) (hc : c ≠ 0) : ∃ T a, x = .iface T (.pointer (some a)) := by
  cases o with
  | none => exact ⟨_, _, h.trans (errA_if A hc)⟩
  | some i =>
    obtain ⟨_, b, e, _⟩ := h
    exact ⟨_, _, e⟩
theorem fText_is (p : ByteArray) (R X : List Bm) : fText (p, R, X) = wModule ++ 32 :: p.data.toList ++ [10] ++ ended (R.map (lineOf wRequire)) ++ ended (X.map (lineOf wExclude)) := by
  unfold fText linesOf
  rw [show ∀ (a : List UInt8) (r : List (List UInt8)), ended (a :: r) = (a ++ [10]) ++ ended r from fun a r => by simp [ended], ended_app]
  simp

set_option maxHeartbeats 1000000 in
theorem ftext_bad (p : ByteArray) (R X : List Bm) (v u : Value) (A : Nat → Addr) (m : Int) (w : World) (hp : p.size < 999999) (S : Te w A m) (F : Fl w R X v u) (h : (fileF p R X).1 ≠ 0) :
    Calls Tryz.prog 13 #[.agg #[.string p, v, u]] w fun e w' => e = .returned (.string ⟨#[]⟩) ∧ Below w.heap.size w w' := by
  obtain ⟨⟨vp, vc, rfl⟩, up, uc, rfl⟩ := F.slices
  have HB0 := hid ((Below.refl w.heap.size w).alloc (Nat.le_refl _) (.cells #[.string p, .slice vp R.length vc, .slice up X.length uc] 24))
  have HC := hid (fcheck_any p R X _ _ A m _ hp (S.below HB0.out) (F.below HB0.out))
  have HN := hid h
  clear S F h
  go_enter Tryz.func13, Tryz.ntmps13
  go_wp2_with fail
  refine HC.out.mono ?_
  rintro e w1 ⟨x, rfl, he, hb⟩
  obtain ⟨T, a, rfl⟩ := errAt_iface he HN.out
  have HB := hid (HB0.out.trans (hb.mono HB0.out.size))
  clear hb he
  go_wp2_with fail
  go_ret
  exact ⟨rfl, HB.out⟩
set_option maxHeartbeats 1000000 in
theorem ftext_ok (p : ByteArray) (R X : List Bm) (v u : Value) (A : Nat → Addr) (m : Int) (w : World) (hp : p.size < 999999) (S : Te w A m) (F : Fl w R X v u) (h : (fileF p R X).1 = 0) :
    Calls Tryz.prog 13 #[.agg #[.string p, v, u]] w fun e w' => e = .returned (.string (bt (fText (p, R, X)))) ∧ Below w.heap.size w w' := by
  obtain ⟨⟨vp, vc, rfl⟩, up, uc, rfl⟩ := F.slices
  have HB0 := hid ((Below.refl w.heap.size w).alloc (Nat.le_refl _) (.cells #[.string p, .slice vp R.length vc, .slice up X.length uc] 24))
  have HF := hid (F.below HB0.out)
  have HC := hid (fcheck_any p R X _ _ A m _ hp (S.below HB0.out) HF.out)
  rw [h] at HC
  clear S F h
  go_enter Tryz.func13, Tryz.ntmps13
  go_wp2_with fail
  refine HC.out.mono ?_
  rintro e w1 ⟨x, rfl, he, hb⟩
  obtain rfl := errAt_nil he
  have HBa := hid (hb.mono (show w.heap.size + 1 ≤ _ by simp))
  have HB := hid (HB0.out.trans (hb.mono HB0.out.size))
  have HF1 := hid (HF.out.below hb)
  have HI := hid (Lib.fresh_isBuilder 87 5 w1)
  have HBb := hid ((Below.refl w1.heap.size w1).alloc (Nat.le_refl _) (.cells #[.pointer none, .slice none 0 0] 87))
  obtain ⟨⟨r0, r1, r2⟩, rz⟩ := res3 HBa.out
  have s0 := cell_below HBb.out r0
  clear hb he
  have HSE := hid (show ((⟨#[109, 111, 100, 117, 108, 101, 32]⟩ : ByteArray) ++ p ++ (⟨#[10]⟩ : ByteArray)).data.toList = wModule ++ 32 :: p.data.toList ++ [10] by simp [wModule])
  have HSZ := hid (show ((⟨#[109, 111, 100, 117, 108, 101, 32]⟩ : ByteArray) ++ p ++ (⟨#[10]⟩ : ByteArray)).size ≤ 1000100 by rw [← len_eq, HSE.out]; simp [wModule]; omega)
  go_wp2_with fail
  refine (write_any w1.heap.size w1.heap.size [] _ _ HI.out (by have := HSZ.out; simp only [List.length_nil]; omega) HBb.out.size).mono ?_
  rintro e w2 ⟨rfl, hI, hb2⟩
  have HI2 := hid (show Lib.IsBuilder 87 5 w1.heap.size w1.heap.size (Lib.byteCells (wModule ++ 32 :: p.data.toList ++ [10])) w2 by rw [← HSE.out]; exact Or.inr hI)
  have HB2 := hid (HBb.out.trans hb2)
  have t1 := cell_below HB2.out r1
  have t2 := cell_below HB2.out r2
  clear hI hb2 s0
  go_wp2_with fail
  refine (wmods_any ⟨#[114, 101, 113, 117, 105, 114, 101]⟩ R _ w1.heap.size _ w1 w2 (by decide) HF1.out.rn HF1.out.rs (by simp [wModule]; omega) HF1.out.r HB2.out HI2.out).mono ?_
  rintro e w3 ⟨rfl, hI, hb3⟩
  have HI3 := hid hI
  have HB3 := hid hb3
  have q2 := cell_below HB3.out r2
  clear hI hb3 t1 t2
  go_wp2_with fail
  refine (wmods_any ⟨#[101, 120, 99, 108, 117, 100, 101]⟩ X _ w1.heap.size _ w1 w3 (by decide) HF1.out.xn HF1.out.xs (by
    have e1 := ended_bd HF1.out.rs (word := wRequire) (by decide) R.length
    rw [List.take_length] at e1
    have e2 : 3000000 * R.length ≤ 3000000 * 1000000 := Nat.mul_le_mul_left _ HF1.out.rn
    rw [List.length_append]
    have e3 : (ended (List.map (lineOf [114, 101, 113, 117, 105, 114, 101]) R)).length ≤ 3000000 * R.length := e1
    have e4 : (wModule ++ 32 :: p.data.toList ++ [10]).length ≤ 1000100 := by simp [wModule]; omega
    omega) HF1.out.x HB3.out HI3.out).mono ?_
  rintro e w4 ⟨rfl, hI, hb4⟩
  have HI4 := hid (show Lib.IsBuilder 87 5 w1.heap.size w1.heap.size (Lib.byteCells (fText (p, R, X))) w4 by rw [fText_is]; exact hI)
  have HB4 := hid hb4
  clear hI hb4 q2
  go_wp2_with fail
  refine (Tryz.Builder_String_any w1.heap.size w1.heap.size _ w4 HI4.out HB4.out.size).mono ?_
  rintro e w5 ⟨rfl, hb5⟩
  have HB5 := hid (HB.out.trans ((HB4.out.trans hb5).mono HB.out.size))
  clear hb5
  go_wp2_with fail
  go_ret
  exact ⟨rfl, HB5.out⟩
end Ve
end Go.Proofs.YtmgpbejekglipabGreatDoor

/-
  What errors.As (at a target of type **api.Fault) and errors.Is (at a sentinel of errors.New) answer, for a sentinel, another error of errors.New, and an api.Fault that wraps one; nothing old in memory turns.
-/
namespace Go.Proofs.YtmgpbejekglipabGreatDoor
open Go.RowKit Go.Extern.Stop Go.Stop Go.Extern
namespace Er

theorem valueOfPP (t : Addr) (w : World) : (ReflectliteValue.unpack (.iface 122 (.pointer (some t)))).run Tryz.prog w
    = .ok (.agg #[.pointer (some ⟨17, 122, none⟩), .pointer (some ⟨w.heap.size, 0, none⟩), .int .u64 150]) (w.alloc (.cells #[.pointer (some t)] 122)) := by kernel_rfl
theorem typePP (a : Addr) (w : World) : (ReflectliteValue.methodAny (ReflectliteValue.valueError "reflectlite.Value.Type" 0) (fun t _ _ _ => ReflectliteType.toType t) #[.agg #[.pointer (some ⟨17, 122, none⟩), .pointer (some a), .int .u64 150]]).run Tryz.prog w
    = .ok (.iface 198 (.agg #[.pointer (some ⟨17, 122, none⟩)])) w := by kernel_rfl
theorem methodKind (h : Value) (w : World) : (Go.method 408 198 (.agg #[h]) "Kind").run Tryz.prog w = .ok (286, h) w := by kernel_rfl
theorem kindPP (w : World) : ((ReflectliteType.abiMethod fun t => (fun a : Nat => Value.int IntKind.u8 (a : Int)) <$> Rtype.kind t) #[.pointer (some ⟨17, 122, none⟩)]).run Tryz.prog w = .ok (.int .u8 22) w := by kernel_rfl
theorem kindP (w : World) : ((ReflectliteType.abiMethod fun t => (fun a : Nat => Value.int IntKind.u8 (a : Int)) <$> Rtype.kind t) #[.pointer (some ⟨17, 120, none⟩)]).run Tryz.prog w = .ok (.int .u8 22) w := by kernel_rfl

theorem partsPP (a : Addr) (w : World) : (ReflectliteValue.parts (.agg #[.pointer (some ⟨17, 122, none⟩), .pointer (some a), .int .u64 150])).run Tryz.prog w = .ok (some (122, a, 150)) w := by kernel_rfl
theorem isNilPP (a p : Addr) (W : World) (ha : W.cell? a = some (.pointer (some p))) :
    (ReflectliteValue.method (ReflectliteValue.valueError "reflectlite.Value.IsNil" 0) ReflectliteValue.isNil #[.agg #[.pointer (some ⟨17, 122, none⟩), .pointer (some a), .int .u64 150]]).run Tryz.prog W = .ok (.bool false) W := by
  refine (congrArg (fun s => Sem.run Tryz.prog s W) (show ReflectliteValue.method (ReflectliteValue.valueError "reflectlite.Value.IsNil" 0) ReflectliteValue.isNil #[.agg #[.pointer (some ⟨17, 122, none⟩), .pointer (some a), .int .u64 150]] = (ReflectliteValue.parts (.agg #[.pointer (some ⟨17, 122, none⟩), .pointer (some a), .int .u64 150]) >>= _) from rfl)).trans ?_
  simp only [Sem.run_bind, partsPP, Result.andThen]
  simp [ReflectliteValue.isNil, loadVar, isAgg, underlying, Tryz.underlying122, ha, Result.andThen]
theorem methodElem (h : Value) (w : World) : (Go.method 408 198 (.agg #[h]) "Elem").run Tryz.prog w = .ok (298, .agg #[h]) w := by kernel_rfl
theorem methodImplements (h : Value) (w : World) : (Go.method 408 198 (.agg #[h]) "Implements").run Tryz.prog w = .ok (299, .agg #[h]) w := by kernel_rfl
theorem methodAssignableTo (h : Value) (w : World) : (Go.method 408 198 (.agg #[h]) "AssignableTo").run Tryz.prog w = .ok (296, .agg #[h]) w := by kernel_rfl
theorem elemPP (w : World) : (ReflectliteType.method ReflectliteType.elem #[.agg #[.pointer (some ⟨17, 122, none⟩)]]).run Tryz.prog w = .ok (.iface 198 (.agg #[.pointer (some ⟨17, 120, none⟩)])) w := by kernel_rfl
theorem implementsP (w : World) : (ReflectliteType.relation "Implements" ReflectliteType.implements_ #[.agg #[.pointer (some ⟨17, 120, none⟩)], .iface 198 (.agg #[.pointer (some ⟨17, 32, none⟩)])]).run Tryz.prog w = .ok (.bool true) w := by kernel_rfl
theorem typeOfP (v : Value) (w : World) : (ReflectliteType.typeOf #[.iface 120 v]).run Tryz.prog w = .ok (.iface 198 (.agg #[.pointer (some ⟨17, 120, none⟩)])) w := by kernel_rfl
theorem typeOfS (v : Value) (w : World) : (ReflectliteType.typeOf #[.iface 279 v]).run Tryz.prog w = .ok (.iface 198 (.agg #[.pointer (some ⟨17, 279, none⟩)])) w := by kernel_rfl
theorem assignableP (w : World) : (ReflectliteType.relation "AssignableTo" ReflectliteType.assignableTo #[.agg #[.pointer (some ⟨17, 120, none⟩)], .iface 198 (.agg #[.pointer (some ⟨17, 120, none⟩)])]).run Tryz.prog w = .ok (.bool true) w := by kernel_rfl
theorem assignableS (w : World) : (ReflectliteType.relation "AssignableTo" ReflectliteType.assignableTo #[.agg #[.pointer (some ⟨17, 279, none⟩)], .iface 198 (.agg #[.pointer (some ⟨17, 120, none⟩)])]).run Tryz.prog w = .ok (.bool false) w := by kernel_rfl
theorem valueOfP (e : Addr) (w : World) : (ReflectliteValue.unpack (.iface 120 (.pointer (some e)))).run Tryz.prog w
    = .ok (.agg #[.pointer (some ⟨17, 120, none⟩), .pointer (some ⟨w.heap.size, 0, none⟩), .int .u64 150]) (w.alloc (.cells #[.pointer (some e)] 120)) := by kernel_rfl
theorem elemOfPP (w : World) : (Rtype.elem? 122).run Tryz.prog w = .ok (some 120) w := by kernel_rfl
theorem mkP (p : Addr) (w : World) : (ReflectliteValue.mk 120 p ReflectliteValue.flagAddr).run Tryz.prog w = .ok (.agg #[.pointer (some ⟨17, 120, none⟩), .pointer (some p), .int .u64 406]) w := by kernel_rfl
theorem elemVPP (a p : Addr) (W : World) (ha : W.cell? a = some (.pointer (some p))) :
    (ReflectliteValue.method (ReflectliteValue.valueError "reflectlite.Value.Elem" 0) ReflectliteValue.elem #[.agg #[.pointer (some ⟨17, 122, none⟩), .pointer (some a), .int .u64 150]]).run Tryz.prog W
      = .ok (.agg #[.pointer (some ⟨17, 120, none⟩), .pointer (some p), .int .u64 406]) W := by
  refine (congrArg (fun s => Sem.run Tryz.prog s W) (show ReflectliteValue.method (ReflectliteValue.valueError "reflectlite.Value.Elem" 0) ReflectliteValue.elem #[.agg #[.pointer (some ⟨17, 122, none⟩), .pointer (some a), .int .u64 150]] = (ReflectliteValue.parts (.agg #[.pointer (some ⟨17, 122, none⟩), .pointer (some a), .int .u64 150]) >>= _) from rfl)).trans ?_
  simp only [Sem.run_bind, partsPP, Result.andThen]
  simp [ReflectliteValue.elem, loadVar, isAgg, underlying, Tryz.underlying122, ha, Result.andThen, elemOfPP, mkP]
theorem partsPa (a : Addr) (w : World) : (ReflectliteValue.parts (.agg #[.pointer (some ⟨17, 120, none⟩), .pointer (some a), .int .u64 406])).run Tryz.prog w = .ok (some (120, a, 406)) w := by kernel_rfl
theorem partsP (a : Addr) (w : World) : (ReflectliteValue.parts (.agg #[.pointer (some ⟨17, 120, none⟩), .pointer (some a), .int .u64 150])).run Tryz.prog w = .ok (some (120, a, 150)) w := by kernel_rfl
theorem directP (w : World) : (Rtype.directlyAssignable 120 120).run Tryz.prog w = .ok true w := by kernel_rfl
theorem setP (ta b e : Addr) (old : Value) (W : World) (hb : W.cell? b = some (.pointer (some e))) (ht : W.cell? ta = some old) (hf : W.frozen? ta = false) :
    (ReflectliteValue.set #[.agg #[.pointer (some ⟨17, 120, none⟩), .pointer (some ta), .int .u64 406], .agg #[.pointer (some ⟨17, 120, none⟩), .pointer (some b), .int .u64 150]]).run Tryz.prog W
      = .ok (.tuple #[]) (W.setCell ta (.pointer (some e))) := by
  refine (congrArg (fun s => Sem.run Tryz.prog s W) (show ReflectliteValue.set #[.agg #[.pointer (some ⟨17, 120, none⟩), .pointer (some ta), .int .u64 406], .agg #[.pointer (some ⟨17, 120, none⟩), .pointer (some b), .int .u64 150]] = (ReflectliteValue.parts (.agg #[.pointer (some ⟨17, 120, none⟩), .pointer (some ta), .int .u64 406]) >>= fun _ => (ReflectliteValue.parts (.agg #[.pointer (some ⟨17, 120, none⟩), .pointer (some b), .int .u64 150]) >>= _)) from rfl)).trans ?_
  simp only [Sem.run_bind, partsPa, partsP, Result.andThen]
  simp [ReflectliteValue.flagAddr, loadVar, isAgg, underlying, Tryz.underlying120, hb, Result.andThen, directP, storeVar, Value.cells, storeCells, Addr.add]
  rw [run_store Tryz.prog W ta _ _ (by rfl)]
  simp [ht, hf]

set_option maxHeartbeats 4000000 in
/-- errors.As of an api.Fault. -/
theorem as_hit (e t : Addr) (old : Value) (w : World) (hg : w.cell? ⟨10, 0, none⟩ = some (.iface 198 (.agg #[.pointer (some ⟨17, 32, none⟩)]))) (ht0 : w.cell? t = some old) (hf0 : w.frozen? t = false) :
    Calls Tryz.prog 84 #[.iface 120 (.pointer (some e)), .iface 122 (.pointer (some t))] w fun ev w' => ev = .returned (.bool true) ∧ w' = ((((w.alloc (.cells #[.pointer (some t)] 122)).alloc (.cells #[.pointer (some ⟨17, 122, none⟩), .pointer (some ⟨w.heap.size, 0, none⟩), .int .u64 150] 166)).alloc (.cells #[.pointer (some ⟨17, 122, none⟩), .pointer (some ⟨w.heap.size, 0, none⟩), .int .u64 150] 166)).alloc (.cells #[.pointer (some e)] 120)).setCell t (.pointer (some e)) := by
  have h6 := @run_callFunc_extern Tryz.prog 138 _ (fun args => ReflectliteValue.unpack (args.getD 0 (.tuple #[]))) Tryz.func138 (by kernel_rfl) (by kernel_rfl) (by kernel_rfl) (by kernel_rfl)
  have h7 := @run_callFunc_extern Tryz.prog 139 _ (ReflectliteValue.methodAny (ReflectliteValue.valueError "reflectlite.Value.Type" 0) (fun t _ _ _ => ReflectliteType.toType t)) Tryz.func139 (by kernel_rfl) (by kernel_rfl) (by kernel_rfl) (by kernel_rfl)
  have h8 := @run_callFunc_extern Tryz.prog 140 _ (ReflectliteValue.method (ReflectliteValue.valueError "reflectlite.Value.IsNil" 0) ReflectliteValue.isNil) Tryz.func140 (by kernel_rfl) (by kernel_rfl) (by kernel_rfl) (by kernel_rfl)
  have h27 := @run_callFunc_extern Tryz.prog 286 _ (ReflectliteType.abiMethod fun t => do pure (.int .u8 (← Rtype.kind t))) Tryz.func286 (by kernel_rfl) (by kernel_rfl) (by kernel_rfl) (by kernel_rfl)
  have h37 := @run_callFunc_extern Tryz.prog 298 _ (ReflectliteType.method ReflectliteType.elem) Tryz.func298 (by kernel_rfl) (by kernel_rfl) (by kernel_rfl) (by kernel_rfl)
  have h38 := @run_callFunc_extern Tryz.prog 299 _ (ReflectliteType.relation "Implements" ReflectliteType.implements_) Tryz.func299 (by kernel_rfl) (by kernel_rfl) (by kernel_rfl) (by kernel_rfl)
  have h10 := @run_callFunc_extern Tryz.prog 142 _ ReflectliteType.typeOf Tryz.func142 (by kernel_rfl) (by kernel_rfl) (by kernel_rfl) (by kernel_rfl)
  have h35 := @run_callFunc_extern Tryz.prog 296 _ (ReflectliteType.relation "AssignableTo" ReflectliteType.assignableTo) Tryz.func296 (by kernel_rfl) (by kernel_rfl) (by kernel_rfl) (by kernel_rfl)
  have h11 := @run_callFunc_extern Tryz.prog 181 _ (ReflectliteValue.method (ReflectliteValue.valueError "reflectlite.Value.Elem" 0) ReflectliteValue.elem) Tryz.func181 (by kernel_rfl) (by kernel_rfl) (by kernel_rfl) (by kernel_rfl)
  have h12 := @run_callFunc_extern Tryz.prog 182 _ ReflectliteValue.set Tryz.func182 (by kernel_rfl) (by kernel_rfl) (by kernel_rfl) (by kernel_rfl)
  have tO := typeOfP
  have mA := methodAssignableTo
  have a25 := assignableP
  have v25 := valueOfP
  have f6 := valueOfPP
  have f7 := typePP
  have mK := methodKind
  have mE := methodElem
  have mI := methodImplements
  have k27 := kindPP
  have k25 := kindP
  have e27 := elemPP
  have i25 := implementsP
  have n8 := isNilPP ⟨w.heap.size, 0, none⟩ t ((w.alloc (.cells #[.pointer (some t)] 122)).alloc (.cells #[.pointer (some ⟨17, 122, none⟩), .pointer (some ⟨w.heap.size, 0, none⟩), .int .u64 150] 166)) (by simp)
  have hlt : 10 < w.heap.size := by
    rcases Nat.lt_or_ge 10 w.heap.size with h | h
    · exact h
    · simp [World.cell?, Array.getElem?_eq_none h] at hg
  have hg2 : ((w.alloc (.cells #[.pointer (some t)] 122)).alloc (.cells #[.pointer (some ⟨17, 122, none⟩), .pointer (some ⟨w.heap.size, 0, none⟩), .int .u64 150] 166)).cell? ⟨10, 0, none⟩ = some (.iface 198 (.agg #[.pointer (some ⟨17, 32, none⟩)])) := by
    rw [World.cell?_alloc_lt _ _ ⟨10, 0, none⟩ (by simp; omega), World.cell?_alloc_lt _ _ ⟨10, 0, none⟩ hlt]; exact hg
  have htl : t.block < w.heap.size := by
    rcases Nat.lt_or_ge t.block w.heap.size with h | h
    · exact h
    · simp [World.cell?, Array.getElem?_eq_none h] at ht0
  have el := elemVPP ⟨w.heap.size, 0, none⟩ t (((w.alloc (.cells #[.pointer (some t)] 122)).alloc (.cells #[.pointer (some ⟨17, 122, none⟩), .pointer (some ⟨w.heap.size, 0, none⟩), .int .u64 150] 166)).alloc (.cells #[.pointer (some ⟨17, 122, none⟩), .pointer (some ⟨w.heap.size, 0, none⟩), .int .u64 150] 166)) (by rw [World.cell?_alloc_lt _ _ ⟨w.heap.size, 0, none⟩ (by simp; omega)]; simp)
  have st := setP t ⟨w.heap.size + 1 + 1 + 1, 0, none⟩ e old ((((w.alloc (.cells #[.pointer (some t)] 122)).alloc (.cells #[.pointer (some ⟨17, 122, none⟩), .pointer (some ⟨w.heap.size, 0, none⟩), .int .u64 150] 166)).alloc (.cells #[.pointer (some ⟨17, 122, none⟩), .pointer (some ⟨w.heap.size, 0, none⟩), .int .u64 150] 166)).alloc (.cells #[.pointer (some e)] 120))
    (by rw [World.cell?_alloc_at _ _ _ _ (by simp)]; rfl)
    (by rw [World.cell?_alloc_lt _ _ t (by simp; omega), World.cell?_alloc_lt _ _ t (by simp; omega), World.cell?_alloc_lt _ _ t (by simp; omega), World.cell?_alloc_lt _ _ t htl]; exact ht0)
    (by rw [World.frozen?_alloc_old _ _ t (by simp; omega), World.frozen?_alloc_old _ _ t (by simp; omega), World.frozen?_alloc_old _ _ t (by simp; omega), World.frozen?_alloc_old _ _ t (Nat.ne_of_lt htl)]; exact hf0)
  go_enter Tryz.func84, Tryz.ntmps84
  go_wp2
  refine wp_loop_rounds 1 ?_
  rw [rounds_succ]
  go_wp2
  go_ret
  exact ⟨rfl, rfl⟩

theorem noAsS (v : Value) (xT : TypeId) (w : World) : (Instr.typeAssert (.iface 279 v) xT 202 true).run Tryz.prog w = .ok (.tuple #[.nilIface, .bool false]) w := run_typeAssert_lacksB Tryz.underlying202 (by kernel_rfl) (by kernel_rfl) v xT w
theorem noIsS (v : Value) (xT : TypeId) (w : World) : (Instr.typeAssert (.iface 279 v) xT 209 true).run Tryz.prog w = .ok (.tuple #[.nilIface, .bool false]) w := run_typeAssert_lacksB Tryz.underlying209 (by kernel_rfl) (by kernel_rfl) v xT w
theorem noUnwrapS (v : Value) (xT : TypeId) (w : World) : (Instr.typeAssert (.iface 279 v) xT 205 true).run Tryz.prog w = .ok (.tuple #[.nilIface, .bool false]) w := run_typeAssert_lacksB Tryz.underlying205 (by kernel_rfl) (by kernel_rfl) v xT w
theorem noUnwrapsS (v : Value) (xT : TypeId) (w : World) : (Instr.typeAssert (.iface 279 v) xT 207 true).run Tryz.prog w = .ok (.tuple #[.nilIface, .bool false]) w := run_typeAssert_lacksB Tryz.underlying207 (by kernel_rfl) (by kernel_rfl) v xT w
theorem noIsP (v : Value) (xT : TypeId) (w : World) : (Instr.typeAssert (.iface 120 v) xT 209 true).run Tryz.prog w = .ok (.tuple #[.nilIface, .bool false]) w := run_typeAssert_lacksB Tryz.underlying209 (by kernel_rfl) (by kernel_rfl) v xT w
theorem hasUnwrapP (v : Value) (xT : TypeId) (w : World) : (Instr.typeAssert (.iface 120 v) xT 205 true).run Tryz.prog w = .ok (.tuple #[.iface 120 v, .bool true]) w := run_typeAssert_hasB Tryz.underlying205 (by kernel_rfl) v xT w
theorem methodUnwrap (v : Value) (w : World) : (Go.method 408 120 v "Unwrap").run Tryz.prog w = .ok (291, v) w := by kernel_rfl

set_option maxHeartbeats 4000000 in
/-- errors.As of an error of errors.New. -/
theorem as_miss (e t : Addr) (w : World) (hg : w.cell? ⟨10, 0, none⟩ = some (.iface 198 (.agg #[.pointer (some ⟨17, 32, none⟩)]))) :
    Calls Tryz.prog 84 #[.iface 279 (.pointer (some e)), .iface 122 (.pointer (some t))] w fun ev w' => ev = .returned (.bool false) ∧ w' = ((w.alloc (.cells #[.pointer (some t)] 122)).alloc (.cells #[.pointer (some ⟨17, 122, none⟩), .pointer (some ⟨w.heap.size, 0, none⟩), .int .u64 150] 166)).alloc (.cells #[.pointer (some ⟨17, 122, none⟩), .pointer (some ⟨w.heap.size, 0, none⟩), .int .u64 150] 166) := by
  have h6 := @run_callFunc_extern Tryz.prog 138 _ (fun args => ReflectliteValue.unpack (args.getD 0 (.tuple #[]))) Tryz.func138 (by kernel_rfl) (by kernel_rfl) (by kernel_rfl) (by kernel_rfl)
  have h7 := @run_callFunc_extern Tryz.prog 139 _ (ReflectliteValue.methodAny (ReflectliteValue.valueError "reflectlite.Value.Type" 0) (fun t _ _ _ => ReflectliteType.toType t)) Tryz.func139 (by kernel_rfl) (by kernel_rfl) (by kernel_rfl) (by kernel_rfl)
  have h8 := @run_callFunc_extern Tryz.prog 140 _ (ReflectliteValue.method (ReflectliteValue.valueError "reflectlite.Value.IsNil" 0) ReflectliteValue.isNil) Tryz.func140 (by kernel_rfl) (by kernel_rfl) (by kernel_rfl) (by kernel_rfl)
  have h27 := @run_callFunc_extern Tryz.prog 286 _ (ReflectliteType.abiMethod fun t => do pure (.int .u8 (← Rtype.kind t))) Tryz.func286 (by kernel_rfl) (by kernel_rfl) (by kernel_rfl) (by kernel_rfl)
  have h37 := @run_callFunc_extern Tryz.prog 298 _ (ReflectliteType.method ReflectliteType.elem) Tryz.func298 (by kernel_rfl) (by kernel_rfl) (by kernel_rfl) (by kernel_rfl)
  have h38 := @run_callFunc_extern Tryz.prog 299 _ (ReflectliteType.relation "Implements" ReflectliteType.implements_) Tryz.func299 (by kernel_rfl) (by kernel_rfl) (by kernel_rfl) (by kernel_rfl)
  have h10 := @run_callFunc_extern Tryz.prog 142 _ ReflectliteType.typeOf Tryz.func142 (by kernel_rfl) (by kernel_rfl) (by kernel_rfl) (by kernel_rfl)
  have h35 := @run_callFunc_extern Tryz.prog 296 _ (ReflectliteType.relation "AssignableTo" ReflectliteType.assignableTo) Tryz.func296 (by kernel_rfl) (by kernel_rfl) (by kernel_rfl) (by kernel_rfl)
  have tO := typeOfS
  have mA := methodAssignableTo
  have a25 := assignableS
  have f6 := valueOfPP
  have f7 := typePP
  have mK := methodKind
  have mE := methodElem
  have mI := methodImplements
  have k27 := kindPP
  have k25 := kindP
  have e27 := elemPP
  have i25 := implementsP
  have q1 := noAsS
  have q2 := noUnwrapS
  have q3 := noUnwrapsS
  have n8 := isNilPP ⟨w.heap.size, 0, none⟩ t ((w.alloc (.cells #[.pointer (some t)] 122)).alloc (.cells #[.pointer (some ⟨17, 122, none⟩), .pointer (some ⟨w.heap.size, 0, none⟩), .int .u64 150] 166)) (by simp)
  have hlt : 10 < w.heap.size := by
    rcases Nat.lt_or_ge 10 w.heap.size with h | h
    · exact h
    · simp [World.cell?, Array.getElem?_eq_none h] at hg
  have hg2 : ((w.alloc (.cells #[.pointer (some t)] 122)).alloc (.cells #[.pointer (some ⟨17, 122, none⟩), .pointer (some ⟨w.heap.size, 0, none⟩), .int .u64 150] 166)).cell? ⟨10, 0, none⟩ = some (.iface 198 (.agg #[.pointer (some ⟨17, 32, none⟩)])) := by
    rw [World.cell?_alloc_lt _ _ ⟨10, 0, none⟩ (by simp; omega), World.cell?_alloc_lt _ _ ⟨10, 0, none⟩ hlt]; exact hg
  go_enter Tryz.func84, Tryz.ntmps84
  go_wp2
  refine wp_loop_rounds 1 ?_
  rw [rounds_succ]
  go_wp2
  go_ret
  exact ⟨rfl, rfl⟩

theorem callComp (w : World) : (callFunc 297 #[.agg #[.pointer (some ⟨17, 279, none⟩)]]).run Tryz.prog w = .ok (.value (.bool true)) w := by kernel_rfl
theorem methodComparable (v : Value) (w : World) : (Go.method 408 198 v "Comparable").run Tryz.prog w = .ok (297, v) w := by kernel_rfl
theorem compS : (Tryz.prog.info? 279).map (·.comparable) = some true := by kernel_rfl
theorem sizeS : (Tryz.prog.info? 297).map (·.size) = some 1 := by kernel_rfl

set_option maxHeartbeats 1000000 in
/-- errors.Is of a sentinel at itself. -/
theorem is_same (a : Addr) (w : World) :
    Calls Tryz.prog 85 #[.iface 279 (.pointer (some a)), .iface 279 (.pointer (some a))] w fun e w' => e = .returned (.bool true) ∧ w' = w := by
  obtain ⟨i, hi, hcmp⟩ := Option.map_eq_some_iff.1 compS
  obtain ⟨j, hj, hjs⟩ := Option.map_eq_some_iff.1 sizeS
  have h8 := @run_callFunc_extern Tryz.prog 142 _ ReflectliteType.typeOf Tryz.func142 (by kernel_rfl) (by kernel_rfl) (by kernel_rfl) (by kernel_rfl)
  have h32 := callComp
  have tT := typeOfS
  have mR := methodComparable
  have heq := run_eql_iface_ptr_same (P := Tryz.prog) w a Tryz.underlying32 Tryz.underlying279 hi hcmp hj
  go_enter Tryz.func85, Tryz.ntmps85
  go_wp2
  refine wp_loop_rounds 1 ?_
  rw [rounds_succ]
  go_wp2
  go_ret
  exact ⟨rfl, rfl⟩

set_option maxHeartbeats 1000000 in
/-- errors.Is of an error of errors.New at another one. -/
theorem is_other (a b : Addr) (ca cb : Array Value) (ta tb : TypeId) (w : World) (hne : a ≠ b) (ha : w.heap[a.block]? = some (.cells ca ta (0, 0))) (hb : w.heap[b.block]? = some (.cells cb tb (0, 0))) :
    Calls Tryz.prog 85 #[.iface 279 (.pointer (some a)), .iface 279 (.pointer (some b))] w fun e w' => e = .returned (.bool false) ∧ w' = w := by
  obtain ⟨i, hi, hcmp⟩ := Option.map_eq_some_iff.1 compS
  obtain ⟨j, hj, hjs⟩ := Option.map_eq_some_iff.1 sizeS
  have h8 := @run_callFunc_extern Tryz.prog 142 _ ReflectliteType.typeOf Tryz.func142 (by kernel_rfl) (by kernel_rfl) (by kernel_rfl) (by kernel_rfl)
  have h32 := callComp
  have tT := typeOfS
  have mR := methodComparable
  have nE := noIsS
  have uE := noUnwrapS
  have vE := noUnwrapsS
  have heq := run_eql_iface_ptr_other (P := Tryz.prog) w Tryz.underlying32 Tryz.underlying279 hi hcmp hj (by rw [hjs]; decide) hne ha hb
  go_enter Tryz.func85, Tryz.ntmps85
  go_wp2
  refine wp_loop_rounds 1 ?_
  rw [rounds_succ]
  go_wp2
  go_ret
  exact ⟨rfl, rfl⟩

set_option maxHeartbeats 1000000 in
/-- errors.Is of an api.Fault that wraps the sentinel. -/
theorem is_wrap_same (pb po : Nat) (b : Addr) (w : World) (h1 : w.cell? ⟨pb, po + 1, none⟩ = some (.iface 279 (.pointer (some b)))) :
    Calls Tryz.prog 85 #[.iface 120 (.pointer (some ⟨pb, po, none⟩)), .iface 279 (.pointer (some b))] w fun e w' => e = .returned (.bool true) ∧ w' = w := by
  obtain ⟨i, hi, hcmp⟩ := Option.map_eq_some_iff.1 compS
  obtain ⟨j, hj, hjs⟩ := Option.map_eq_some_iff.1 sizeS
  have h8 := @run_callFunc_extern Tryz.prog 142 _ ReflectliteType.typeOf Tryz.func142 (by kernel_rfl) (by kernel_rfl) (by kernel_rfl) (by kernel_rfl)
  have h32 := callComp
  have tT := typeOfS
  have mR := methodComparable
  have nW := noIsP
  have uW := hasUnwrapP
  have mU := methodUnwrap
  have heq := run_eql_iface_ptr_same (P := Tryz.prog) w b Tryz.underlying32 Tryz.underlying279 hi hcmp hj
  have hty := run_eql_iface_types (P := Tryz.prog) 120 279 (.pointer (some ⟨pb, po, none⟩)) (.pointer (some b)) Tryz.underlying32 (by decide) w
  go_enter Tryz.func85, Tryz.ntmps85
  go_wp2
  refine wp_loop_rounds 2 ?_
  rw [rounds_succ]
  go_wp2
  rw [rounds_succ]
  go_wp2
  go_ret
  exact ⟨rfl, rfl⟩

set_option maxHeartbeats 1000000 in
/-- errors.Is of an api.Fault that wraps another error of errors.New. -/
theorem is_wrap_other (pb po : Nat) (b a : Addr) (ca cb : Array Value) (ta tb : TypeId) (w : World) (h1 : w.cell? ⟨pb, po + 1, none⟩ = some (.iface 279 (.pointer (some a)))) (hne : a ≠ b) (ha : w.heap[a.block]? = some (.cells ca ta (0, 0))) (hb : w.heap[b.block]? = some (.cells cb tb (0, 0))) :
    Calls Tryz.prog 85 #[.iface 120 (.pointer (some ⟨pb, po, none⟩)), .iface 279 (.pointer (some b))] w fun e w' => e = .returned (.bool false) ∧ w' = w := by
  obtain ⟨i, hi, hcmp⟩ := Option.map_eq_some_iff.1 compS
  obtain ⟨j, hj, hjs⟩ := Option.map_eq_some_iff.1 sizeS
  have h8 := @run_callFunc_extern Tryz.prog 142 _ ReflectliteType.typeOf Tryz.func142 (by kernel_rfl) (by kernel_rfl) (by kernel_rfl) (by kernel_rfl)
  have h32 := callComp
  have tT := typeOfS
  have mR := methodComparable
  have nE := noIsS
  have uE := noUnwrapS
  have vE := noUnwrapsS
  have nW := noIsP
  have uW := hasUnwrapP
  have mU := methodUnwrap
  have heq := run_eql_iface_ptr_other (P := Tryz.prog) w Tryz.underlying32 Tryz.underlying279 hi hcmp hj (by rw [hjs]; decide) hne ha hb
  have hty := run_eql_iface_types (P := Tryz.prog) 120 279 (.pointer (some ⟨pb, po, none⟩)) (.pointer (some b)) Tryz.underlying32 (by decide) w
  go_enter Tryz.func85, Tryz.ntmps85
  go_wp2
  refine wp_loop_rounds 2 ?_
  rw [rounds_succ]
  go_wp2
  rw [rounds_succ]
  go_wp2
  go_ret
  exact ⟨rfl, rfl⟩

end Er
end Go.Proofs.YtmgpbejekglipabGreatDoor
