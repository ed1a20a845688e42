/-
  FileF FileM
-/
import Derived.Test.YtjhlkjgijbobcaaGreatDoorFt34
import Derived.Test.YtjhlkjgijbobcaaGreatDoorFt4
import Derived.Test.YtjhlkjgijbobcaaGreatDoorFt22
import Derived.Deep.LoopGhost
namespace Go.Proofs.YtjhlkjgijbobcaaGreatDoor
open Go.RowKit
namespace Ve
theorem isB_below {T e : TypeId} {B b : Nat} {bs : List Value} {w w' : World} (h : Lib.IsBuilder T e B b bs w) (hb : Below w.heap.size w w') : Lib.IsBuilder T e B b bs w' := by
  have go : ∀ p, Lib.BuilderAt T e B b p bs w → Lib.BuilderAt T e B b p bs w' := fun p h => by
    have hlt := h.lt
    obtain ⟨h1, v, h2, h3, h4⟩ := h
    exact ⟨h1, v, by rw [hb.block _ hlt]; exact h2, owns_below h3 hb, h4⟩
  rcases h with h | h
  · exact Or.inl (go _ h)
  · exact Or.inr (go _ h)
theorem bytes_app (a b : List UInt8) : Lib.byteCells (a ++ b) = Lib.byteCells a ++ Lib.byteCells b := by simp [Lib.byteCells]
theorem bytes_len (a : List UInt8) : (Lib.byteCells a).length = a.length := by simp [Lib.byteCells]
theorem ended_snoc (ls : List (List UInt8)) (l : List UInt8) : ended (ls ++ [l]) = ended ls ++ (l ++ [10]) := by simp [ended]
theorem ended_app (a b : List (List UInt8)) : ended (a ++ b) = ended a ++ ended b := by simp [ended]
theorem take_next {L : List Bm} {k : Nat} (h : k < L.length) (f : Bm → List UInt8) : (L.take (k + 1)).map f = (L.take k).map f ++ [f L[k]] := by
  rw [List.take_succ_eq_append_getElem h, List.map_append]; rfl
theorem ended_bd {L : List Bm} (hs : shortL L) {word : List UInt8} (hw : word.length ≤ 100) (k : Nat) : (ended ((L.take k).map (lineOf word))).length ≤ 3000000 * k := by
  have h := ended_len 2999999 ((L.take k).map (lineOf word)) (fun l hl => by
    obtain ⟨m, hm, rfl⟩ := List.mem_map.1 hl
    have := hs m (List.mem_of_mem_take hm)
    simp [lineOf]; omega)
  simp only [List.length_map] at h
  have h2 : (L.take k).length ≤ k := by simp; omega
  have : (L.take k).length * (2999999 + 1) ≤ k * (2999999 + 1) := Nat.mul_le_mul_right _ h2
  omega
set_option maxHeartbeats 1000000 in
theorem wmods_some (word : ByteArray) (L : List Bm) (b o c bb : Nat) (l : List UInt8) (w0 w : World) (hw : word.data.toList.length ≤ 100) (hL : L.length ≤ 1000000) (hs : shortL L) (hl : l.length ≤ 10000000000000)
    (hc : ∀ j (h : j < L.length), w0.cell? ⟨b, o + j * 2, none⟩ = some (.string L[j].1) ∧ w0.cell? ⟨b, o + j * 2 + 1, none⟩ = some (.string L[j].2)) (hb : Below w0.heap.size w0 w) (hB : Lib.IsBuilder 67 5 w0.heap.size bb (Lib.byteCells l) w) :
    Calls Tryz.prog 35 #[.pointer (some ⟨bb, 0, none⟩), .string word, .slice (some ⟨b, o, none⟩) L.length c] w fun e w' => e = .returned (.tuple #[]) ∧ Lib.IsBuilder 67 5 w0.heap.size bb (Lib.byteCells (l ++ ended (L.map (lineOf word.data.toList)))) w' ∧ Below w0.heap.size w0 w' := by
  have HC := hid hc
  have HB := hid hb
  have HI := hid hB
  have HWZ := hid hw
  have HLZ := hid hl
  have HSZ := hid hs
  clear hc hb hB hw hl hs
  go_enter Tryz.func35, Tryz.ntmps35
  go_wp2_with fail
  go_loopw [10] (fun i wr => ∃ k : Nat, k ≤ L.length ∧ i = .int .i64 k ∧ Hid (Below w0.heap.size w0 wr) ∧ Hid (Lib.IsBuilder 67 5 w0.heap.size bb (Lib.byteCells (l ++ ended ((L.take k).map (lineOf word.data.toList)))) wr)) (fun i _ => L.length - (intOf i).toNat)
  case atStart => exact ⟨0, Nat.zero_le _, rfl, HB, hid (by rw [List.take_zero, List.map_nil, show ended [] = [] from rfl, List.append_nil]; exact HI.out)⟩
  case round =>
    obtain ⟨k, hk, rfl, HR, HS⟩ := hrel
    by_cases hlt : k < L.length
    · have hx := cell_below HR.out (HC.out k hlt).1
      have hy := cell_below HR.out (HC.out k hlt).2
      have HLT := hid hlt
      have HZ := hid (HSZ.out L[k] (List.getElem_mem hlt))
      have HTN := hid (take_next hlt (lineOf word.data.toList))
      have HBD := hid (ended_bd HSZ.out HWZ.out k)
      generalize L[k] = x at *
      obtain ⟨p, v⟩ := x
      have HBa := hid (HR.out.alloc HR.out.size (.cells #[.string p, .string v] 26))
      have HIa := hid (isB_below HS.out ((Below.refl wr.heap.size wr).alloc (Nat.le_refl _) (.cells #[.string p, .string v] 26)))
      have h1 : p.size < 999999 := HZ.out.1
      have h2 : v.size < 999999 := HZ.out.2
      have h3 : word.size ≤ 100 := by have := HWZ.out; simp at this; exact this
      have HSE := hid (show (word ++ (⟨#[32]⟩ : ByteArray) ++ p ++ (⟨#[32]⟩ : ByteArray) ++ v ++ (⟨#[10]⟩ : ByteArray)).data.toList = lineOf word.data.toList (p, v) ++ [10] by simp [lineOf])
      have HSZ2 := hid (show (word ++ (⟨#[32]⟩ : ByteArray) ++ p ++ (⟨#[32]⟩ : ByteArray) ++ v ++ (⟨#[10]⟩ : ByteArray)).size ≤ 3000000 by
        rw [← len_eq, HSE.out]; simp [lineOf]; omega)
      go_wp2_with fail
      refine (write_any w0.heap.size bb _ _ _ HIa.out (by
        have e1 := HSZ2.out
        have e2 := HBD.out
        have e3 := HLZ.out
        rw [bytes_len, List.length_append]
        have e4 : 3000000 * k ≤ 3000000 * 1000000 := Nat.mul_le_mul_left _ (by omega)
        omega) HBa.out.size).mono ?_
      rintro e w1 ⟨rfl, hI, hb1⟩
      have HI1 := hid (show Lib.IsBuilder 67 5 w0.heap.size bb (Lib.byteCells (l ++ ended ((L.take (k + 1)).map (lineOf word.data.toList)))) w1 by
        rw [HTN.out, ended_snoc, ← List.append_assoc, bytes_app (l ++ _), ← HSE.out]
        exact Or.inr hI)
      have HB1 := hid (HBa.out.trans hb1)
      clear hI hb1
      go_wp2_with fail
      go_roundw
      case rel => exact ⟨k + 1, by have := HLT.out; omega, by go_num, HB1, HI1⟩
      case measure => have := HLT.out; simp [intOf]; omega
    · have HE := hid (show L.take k = L from List.take_of_length_le (by omega))
      go_wp2_with fail
      go_end0
      exact ⟨rfl, by have h := HS.out; rw [HE.out] at h; exact h, HR.out⟩
theorem wmods_none (word : ByteArray) (a : Option Addr) (c bb : Nat) (w : World) :
    Calls Tryz.prog 35 #[.pointer (some ⟨bb, 0, none⟩), .string word, .slice a 0 c] w fun e w' => e = .returned (.tuple #[]) ∧ w' = w := by
  go_enter Tryz.func35, Tryz.ntmps35
  go_wp2_with fail
  go_loopw [10] (fun i wr => i = .int .i64 0 ∧ wr = w) (fun i _ => 0)
  case atStart => exact ⟨rfl, rfl⟩
  case round =>
    obtain ⟨rfl, rfl⟩ := hrel
    go_wp2_with fail
    go_end0
    exact ⟨rfl, rfl⟩
theorem wmods_any (word : ByteArray) (L : List Bm) (v : Value) (bb : Nat) (l : List UInt8) (w0 w : World) (hw : word.data.toList.length ≤ 100) (hL : L.length ≤ 1000000) (hs : shortL L) (hl : l.length ≤ 10000000000000)
    (hv : MsAt w0 v L) (hb : Below w0.heap.size w0 w) (hB : Lib.IsBuilder 67 5 w0.heap.size bb (Lib.byteCells l) w) :
    Calls Tryz.prog 35 #[.pointer (some ⟨bb, 0, none⟩), .string word, v] w fun e w' => e = .returned (.tuple #[]) ∧ Lib.IsBuilder 67 5 w0.heap.size bb (Lib.byteCells (l ++ ended (L.map (lineOf word.data.toList)))) w' ∧ Below w0.heap.size w0 w' := by
  obtain ⟨a, c, rfl, _, h⟩ := hv
  cases L with
  | nil => exact (wmods_none word a c bb w).mono fun e w' ⟨h1, h2⟩ => ⟨h1, by rw [h2, List.map_nil, show ended [] = [] from rfl, List.append_nil]; exact hB, by rw [h2]; exact hb⟩
  | cons x r =>
    obtain ⟨b, o, rfl, h2⟩ := h (by simp)
    exact wmods_some word (x :: r) b o c bb l w0 w hw hL hs hl h2 hb hB
theorem errAt_nil {W : World} {A : Nat → Addr} {x : Value} {o : Option Nat} (h : ErrAt W A x 0 o) : x = .nilIface := by
  cases o with
  | none => exact h
  | some i => exact absurd rfl h.1
theorem errAt_iface {W : World} {A : Nat → Addr} {x : Value} {c : Nat} {o : Option Nat} (h : ErrAt W A x c o) (hc : c ≠ 0) : ∃ T a, x = .iface T (.pointer (some a)) := by
  cases o with
  | none => exact ⟨_, _, h.trans (errA_if A hc)⟩
  | some i =>
    obtain ⟨_, b, e, _⟩ := h
    exact ⟨_, _, e⟩
theorem fText_is (p : ByteArray) (R X : List Bm) : fText (p, R, X) = wModule ++ 32 :: p.data.toList ++ [10] ++ ended (R.map (lineOf wRequire)) ++ ended (X.map (lineOf wExclude)) := by
  unfold fText linesOf
  rw [show ∀ (a : List UInt8) (r : List (List UInt8)), ended (a :: r) = (a ++ [10]) ++ ended r from fun a r => by simp [ended], ended_app]
  simp
set_option maxHeartbeats 1000000 in
theorem ftext_bad (p : ByteArray) (R X : List Bm) (v u : Value) (A : Nat → Addr) (m : Int) (w : World) (hp : p.size < 999999) (S : Te w A m) (F : Fl w R X v u) (h : (fileF p R X).1 ≠ 0) :
    Calls Tryz.prog 11 #[.agg #[.string p, v, u]] w fun e w' => e = .returned (.string ⟨#[]⟩) ∧ Below w.heap.size w w' := by
  obtain ⟨⟨vp, vc, rfl⟩, up, uc, rfl⟩ := F.slices
  have HB0 := hid ((Below.refl w.heap.size w).alloc (Nat.le_refl _) (.cells #[.string p, .slice vp R.length vc, .slice up X.length uc] 24))
  have HC := hid (fcheck_any p R X _ _ A m _ hp (S.below HB0.out) (F.below HB0.out))
  have HN := hid h
  clear S F h
  go_enter Tryz.func11, Tryz.ntmps11
  go_wp2_with fail
  refine HC.out.mono ?_
  rintro e w1 ⟨x, rfl, he, hb⟩
  obtain ⟨T, a, rfl⟩ := errAt_iface he HN.out
  have HB := hid (HB0.out.trans (hb.mono HB0.out.size))
  clear hb he
  go_wp2_with fail
  go_ret
  exact ⟨rfl, HB.out⟩
set_option maxHeartbeats 1000000 in
theorem ftext_ok (p : ByteArray) (R X : List Bm) (v u : Value) (A : Nat → Addr) (m : Int) (w : World) (hp : p.size < 999999) (S : Te w A m) (F : Fl w R X v u) (h : (fileF p R X).1 = 0) :
    Calls Tryz.prog 11 #[.agg #[.string p, v, u]] w fun e w' => e = .returned (.string (bt (fText (p, R, X)))) ∧ Below w.heap.size w w' := by
  obtain ⟨⟨vp, vc, rfl⟩, up, uc, rfl⟩ := F.slices
  have HB0 := hid ((Below.refl w.heap.size w).alloc (Nat.le_refl _) (.cells #[.string p, .slice vp R.length vc, .slice up X.length uc] 24))
  have HF := hid (F.below HB0.out)
  have HC := hid (fcheck_any p R X _ _ A m _ hp (S.below HB0.out) HF.out)
  rw [h] at HC
  clear S F h
  go_enter Tryz.func11, Tryz.ntmps11
  go_wp2_with fail
  refine HC.out.mono ?_
  rintro e w1 ⟨x, rfl, he, hb⟩
  obtain rfl := errAt_nil he
  have HBa := hid (hb.mono (show w.heap.size + 1 ≤ _ by simp))
  have HB := hid (HB0.out.trans (hb.mono HB0.out.size))
  have HF1 := hid (HF.out.below hb)
  have HI := hid (Lib.fresh_isBuilder 67 5 w1)
  have HBb := hid ((Below.refl w1.heap.size w1).alloc (Nat.le_refl _) (.cells #[.pointer none, .slice none 0 0] 67))
  obtain ⟨⟨r0, r1, r2⟩, rz⟩ := res3 HBa.out
  have s0 := cell_below HBb.out r0
  clear hb he
  have HSE := hid (show ((⟨#[109, 111, 100, 117, 108, 101, 32]⟩ : ByteArray) ++ p ++ (⟨#[10]⟩ : ByteArray)).data.toList = wModule ++ 32 :: p.data.toList ++ [10] by simp [wModule])
  have HSZ := hid (show ((⟨#[109, 111, 100, 117, 108, 101, 32]⟩ : ByteArray) ++ p ++ (⟨#[10]⟩ : ByteArray)).size ≤ 1000100 by rw [← len_eq, HSE.out]; simp [wModule]; omega)
  go_wp2_with fail
  refine (write_any w1.heap.size w1.heap.size [] _ _ HI.out (by have := HSZ.out; simp only [List.length_nil]; omega) HBb.out.size).mono ?_
  rintro e w2 ⟨rfl, hI, hb2⟩
  have HI2 := hid (show Lib.IsBuilder 67 5 w1.heap.size w1.heap.size (Lib.byteCells (wModule ++ 32 :: p.data.toList ++ [10])) w2 by rw [← HSE.out]; exact Or.inr hI)
  have HB2 := hid (HBb.out.trans hb2)
  have t1 := cell_below HB2.out r1
  have t2 := cell_below HB2.out r2
  clear hI hb2 s0
  go_wp2_with fail
  refine (wmods_any ⟨#[114, 101, 113, 117, 105, 114, 101]⟩ R _ w1.heap.size _ w1 w2 (by decide) HF1.out.rn HF1.out.rs (by simp [wModule]; omega) HF1.out.r HB2.out HI2.out).mono ?_
  rintro e w3 ⟨rfl, hI, hb3⟩
  have HI3 := hid hI
  have HB3 := hid hb3
  have q2 := cell_below HB3.out r2
  clear hI hb3 t1 t2
  go_wp2_with fail
  refine (wmods_any ⟨#[101, 120, 99, 108, 117, 100, 101]⟩ X _ w1.heap.size _ w1 w3 (by decide) HF1.out.xn HF1.out.xs (by
    have e1 := ended_bd HF1.out.rs (word := wRequire) (by decide) R.length
    rw [List.take_length] at e1
    have e2 : 3000000 * R.length ≤ 3000000 * 1000000 := Nat.mul_le_mul_left _ HF1.out.rn
    rw [List.length_append]
    have e3 : (ended (List.map (lineOf [114, 101, 113, 117, 105, 114, 101]) R)).length ≤ 3000000 * R.length := e1
    have e4 : (wModule ++ 32 :: p.data.toList ++ [10]).length ≤ 1000100 := by simp [wModule]; omega
    omega) HF1.out.x HB3.out HI3.out).mono ?_
  rintro e w4 ⟨rfl, hI, hb4⟩
  have HI4 := hid (show Lib.IsBuilder 67 5 w1.heap.size w1.heap.size (Lib.byteCells (fText (p, R, X))) w4 by rw [fText_is]; exact hI)
  have HB4 := hid hb4
  clear hI hb4 q2
  go_wp2_with fail
  refine (Tryz.Builder_String_any w1.heap.size w1.heap.size _ w4 HI4.out HB4.out.size).mono ?_
  rintro e w5 ⟨rfl, hb5⟩
  have HB5 := hid (HB.out.trans ((HB4.out.trans hb5).mono HB.out.size))
  clear hb5
  go_wp2_with fail
  go_ret
  exact ⟨rfl, HB5.out⟩
end Ve
end Go.Proofs.YtjhlkjgijbobcaaGreatDoor
namespace Go.Proofs.YtjhlkjgijbobcaaGreatDoor
open Go.RowKit
namespace Ve
set_option maxHeartbeats 1000000 in
theorem findK_any (p v t : ByteArray) (w : World) :
    Calls Tryz.prog 67 #[.agg #[.string p, .string v], .string t] w fun e w' => e = .returned (.int .i64 (Lib.compareBytes p.data.toList t.data.toList)) ∧ Below w.heap.size w w' := by
  have HB0 := hid ((Below.refl w.heap.size w).alloc (Nat.le_refl _) (.cells #[.string p, .string v] 26))
  have HC := hid (Tryz.strings_Compare p t (w.alloc (.cells #[.string p, .string v] 26)))
  go_enter Tryz.func67, Tryz.ntmps67
  go_wp2_with fail
  refine HC.out.mono ?_
  rintro e w1 ⟨rfl, rfl⟩
  go_wp2_with fail
  go_ret
  exact ⟨rfl, HB0.out⟩
def thereB (R : List Bm) (p : ByteArray) (k : Nat) : Bool := match R[k]? with
  | some m => decide (m.1 = p)
  | none => false
def bound (R : List Bm) (p : ByteArray) (lo hi : Nat) : Prop := (∀ t (h : t < R.length), t < lo → lt R[t].1 p = true) ∧ ∀ t (h : t < R.length), hi ≤ t → lt R[t].1 p = false
theorem bound_up {R : List Bm} {p : ByteArray} {lo hi k : Nat} (hr : rising R) (h : bound R p lo hi) (hk : k < R.length) (hl : lt R[k].1 p = true) : bound R p (k + 1) hi := by
  refine ⟨fun t ht htk => ?_, h.2⟩
  rcases Nat.lt_or_ge t k with hh | hh
  · exact lt_trans ((List.pairwise_iff_getElem.1 hr) t k ht hk hh) hl
  · have : t = k := by omega
    subst this; exact hl
theorem bound_down {R : List Bm} {p : ByteArray} {lo hi k : Nat} (hr : rising R) (h : bound R p lo hi) (hk : k < R.length) (hl : lt R[k].1 p = false) : bound R p lo k := by
  refine ⟨h.1, fun t ht htk => ?_⟩
  rcases Nat.lt_or_ge k t with hh | hh
  · cases e : lt R[t].1 p
    · rfl
    · have := lt_trans ((List.pairwise_iff_getElem.1 hr) k t hk ht hh) e
      rw [hl] at this; cases this
  · have : t = k := by omega
    subst this; exact hl
set_option maxHeartbeats 4000000 in
set_option maxRecDepth 100000 in
theorem search_some (R : List Bm) (p : ByteArray) (b o c : Nat) (w : World) (hr : rising R) (hn : R.length ≤ 1000000)
    (hc : ∀ j (h : j < R.length), w.cell? ⟨b, o + j * 2, none⟩ = some (.string R[j].1) ∧ w.cell? ⟨b, o + j * 2 + 1, none⟩ = some (.string R[j].2)) :
    Calls Tryz.prog 66 #[.slice (some ⟨b, o, none⟩) R.length c, .string p, .func (.func 67) #[] #[]] w fun e w' => ∃ k : Nat, k ≤ R.length ∧ e = .returned (.tuple #[.int .i64 k, .bool (thereB R p k)]) ∧ bound R p k k ∧ Below w.heap.size w w' := by
  have HC := hid hc
  have HR := hid hr
  clear hc hr
  have eg : ∀ args w, (callFunc 67 args).run Tryz.prog w = .ok (.enter 67 args) w := enters_of Tryz.func67 (by kernel_rfl) rfl
  go_enter Tryz.func66, Tryz.ntmps66
  go_wp2_with fail
  go_loopg [9, 10] R.length (fun kx s9 s10 wr => ∃ lo hi : Nat, s9 = .int .i64 lo ∧ s10 = .int .i64 hi ∧ lo ≤ hi ∧ hi ≤ R.length ∧ hi - lo ≤ kx ∧ Hid (Below w.heap.size w wr) ∧ Hid (bound R p lo hi))
  case atStart => exact ⟨0, R.length, rfl, rfl, Nat.zero_le _, Nat.le_refl _, by omega, hid (Below.refl _ _), hid ⟨fun t _ ht => absurd ht (Nat.not_lt_zero _), fun t h1 h2 => by omega⟩⟩
  case round =>
    obtain ⟨lo, hi, rfl, rfl, hlh, hin, hg, HB, HI⟩ := hrel
    by_cases hlt : lo < hi
    · have hm : (lo + hi) / 2 < R.length := by omega
      have hx := cell_below HB.out (HC.out ((lo + hi) / 2) hm).1
      have hy := cell_below HB.out (HC.out ((lo + hi) / 2) hm).2
      have HU := hid (fun h => bound_up HR.out HI.out hm h)
      have HD := hid (fun h => bound_down HR.out HI.out hm h)
      generalize R[(lo + hi) / 2] = y at *
      obtain ⟨q, u⟩ := y
      have HK := hid (findK_any q u p wr)
      by_cases hyx : Lib.compareBytes q.data.toList p.data.toList < 0
      · have HI2 := hid (HU.out (decide_eq_true hyx))
        go_wp2_with fail
        refine HK.out.mono ?_
        rintro e w1 ⟨rfl, hb⟩
        have HB1 := hid (HB.out.trans (hb.mono HB.out.size))
        clear hb
        go_wp2_with fail
        go_roundg (hi - ((lo + hi) / 2 + 1))
        case measure => omega
        case rel => exact ⟨(lo + hi) / 2 + 1, hi, by rw [show ((lo : Int) + (hi : Int)) / 2 + 1 = (((lo + hi) / 2 + 1 : Nat) : Int) by omega], rfl, by omega, hin, Nat.le_refl _, HB1, HI2⟩
      · have HI2 := hid (HD.out (decide_eq_false hyx))
        go_wp2_with fail
        refine HK.out.mono ?_
        rintro e w1 ⟨rfl, hb⟩
        have HB1 := hid (HB.out.trans (hb.mono HB.out.size))
        clear hb
        go_wp2_with fail
        go_roundg ((lo + hi) / 2 - lo)
        case measure => omega
        case rel => exact ⟨lo, (lo + hi) / 2, rfl, by rw [show ((lo : Int) + (hi : Int)) / 2 = (((lo + hi) / 2 : Nat) : Int) by omega], by omega, by omega, Nat.le_refl _, HB1, HI2⟩
    · obtain rfl : hi = lo := by omega
      by_cases hn2 : hi < R.length
      · have hx := cell_below HB.out (HC.out hi hn2).1
        have hy := cell_below HB.out (HC.out hi hn2).2
        have HT := hid (show thereB R p hi = decide (R[hi].1 = p) by unfold thereB; rw [List.getElem?_eq_getElem hn2])
        generalize R[hi] = y at *
        obtain ⟨q, u⟩ := y
        have HK := hid (findK_any q u p wr)
        by_cases hyx : Lib.compareBytes q.data.toList p.data.toList = 0
        · have HE := hid (show thereB R p hi = true by rw [HT.out]; exact decide_eq_true (str_ext ((cb_zero _ _).1 hyx)))
          have hyb : (Lib.compareBytes q.data.toList p.data.toList == 0) = true := by simp [hyx]
          go_wp2_with fail
          refine HK.out.mono ?_
          rintro e w1 ⟨rfl, hb⟩
          have HB1 := hid (HB.out.trans (hb.mono HB.out.size))
          clear hb
          go_wp2_with fail
          go_ret2
          exact ⟨hi, hin, by rw [HE.out]; rfl, HI.out, HB1.out⟩
        · have HE := hid (show thereB R p hi = false by rw [HT.out]; exact decide_eq_false (fun e => hyx ((cb_zero _ _).2 (by rw [show q = p from e]))))
          have hyb : (Lib.compareBytes q.data.toList p.data.toList == 0) = false := by simp [hyx]
          go_wp2_with fail
          refine HK.out.mono ?_
          rintro e w1 ⟨rfl, hb⟩
          have HB1 := hid (HB.out.trans (hb.mono HB.out.size))
          clear hb
          go_wp2_with fail
          go_ret2
          exact ⟨hi, hin, by rw [HE.out]; rfl, HI.out, HB1.out⟩
      · have HE := hid (show thereB R p hi = false by unfold thereB; rw [List.getElem?_eq_none (by omega)])
        go_wp2_with fail
        go_ret2
        exact ⟨hi, hin, by rw [HE.out]; rfl, HI.out, HB.out⟩
set_option maxHeartbeats 1000000 in
set_option maxRecDepth 100000 in
theorem search_none (p : ByteArray) (a : Option Addr) (c : Nat) (w : World) :
    Calls Tryz.prog 66 #[.slice a 0 c, .string p, .func (.func 67) #[] #[]] w fun e w' => e = .returned (.tuple #[.int .i64 0, .bool false]) ∧ w' = w := by
  go_enter Tryz.func66, Tryz.ntmps66
  go_wp2_with fail
  go_loopg [9, 10] 0 (fun kx s9 s10 wr => s9 = .int .i64 0 ∧ s10 = .int .i64 0 ∧ wr = w)
  case atStart => exact ⟨rfl, rfl, rfl⟩
  case round =>
    obtain ⟨rfl, rfl, rfl⟩ := hrel
    go_wp2_with fail
    go_ret2
    exact ⟨rfl, rfl⟩
theorem search_any (R : List Bm) (p : ByteArray) (v : Value) (w : World) (hr : rising R) (hn : R.length ≤ 1000000) (hv : MsAt w v R) :
    Calls Tryz.prog 66 #[v, .string p, .func (.func 67) #[] #[]] w fun e w' => ∃ k : Nat, k ≤ R.length ∧ e = .returned (.tuple #[.int .i64 k, .bool (thereB R p k)]) ∧ bound R p k k ∧ Below w.heap.size w w' := by
  obtain ⟨a, c, rfl, _, h⟩ := hv
  cases R with
  | nil => exact (search_none p a c w).mono fun e w' ⟨h1, h2⟩ => ⟨0, Nat.zero_le _, h1, ⟨fun t h => by simp at h, fun t h => by simp at h⟩, by rw [h2]; exact Below.refl _ _⟩
  | cons x r =>
    obtain ⟨b, o, rfl, h2⟩ := h (by simp)
    exact search_some (x :: r) p b o c w hr hn h2
set_option maxHeartbeats 1000000 in
theorem find_any (R : List Bm) (p : ByteArray) (v : Value) (w : World) (hr : rising R) (hn : R.length ≤ 1000000) (hv : MsAt w v R) :
    Calls Tryz.prog 42 #[v, .string p] w fun e w' => ∃ k : Nat, k ≤ R.length ∧ e = .returned (.tuple #[.int .i64 k, .bool (thereB R p k)]) ∧ bound R p k k ∧ Below w.heap.size w w' := by
  have HS := hid (search_any R p v w hr hn hv)
  obtain ⟨va, vn, vc, rfl⟩ := hv.slice
  clear hr hv
  go_enter Tryz.func42, Tryz.ntmps42
  go_wp2_with fail
  refine HS.out.mono ?_
  rintro e w1 ⟨k, hk, rfl, hb, hw⟩
  have HB := hid hb
  have HW := hid hw
  clear hb hw
  go_wp2_with fail
  go_ret2
  exact ⟨k, hk, rfl, HB.out, HW.out⟩
theorem bound_split {R : List Bm} {p : ByteArray} {k : Nat} (hr : rising R) (hk : k ≤ R.length) (h : bound R p k k) : R.take k = loR R p ∧ R.drop k = eqR R p ++ hiR R p := by
  obtain ⟨e, _⟩ := three_R hr p
  have hl : (loR R p).length = k := by
    rcases Nat.lt_trichotomy (loR R p).length k with hh | hh | hh
    · exfalso
      have hlt : (loR R p).length < R.length := by omega
      have h1 := h.1 _ hlt hh
      have h2 : R[(loR R p).length] ∈ eqR R p ++ hiR R p := by
        have : R[(loR R p).length]? = (eqR R p ++ hiR R p)[0]? := by
          have h9 : R[(loR R p).length]? = (loR R p ++ (eqR R p ++ hiR R p))[(loR R p).length]? := congrArg (fun l => l[(loR R p).length]?) e
          rw [List.getElem?_append_right (Nat.le_refl _), Nat.sub_self] at h9
          exact h9
        rw [List.getElem?_eq_getElem hlt] at this
        exact List.mem_of_getElem? this.symm
      rcases List.mem_append.1 h2 with h3 | h3
      · have : R[(loR R p).length].1 = p := of_decide_eq_true (List.mem_filter.1 h3).2
        rw [this, lt_irrefl] at h1; cases h1
      · rw [lt_asymm (hiR_mem.1 h3).2] at h1; cases h1
    · exact hh
    · exfalso
      have hlt : k < R.length := by
        have := congrArg List.length e
        simp only [List.length_append] at this
        omega
      have h1 := h.2 k hlt (Nat.le_refl _)
      have h2 : R[k] ∈ loR R p := by
        have : R[k]? = (loR R p)[k]? := by
          have h9 : R[k]? = (loR R p ++ (eqR R p ++ hiR R p))[k]? := congrArg (fun l => l[k]?) e
          rw [List.getElem?_append_left hh] at h9
          exact h9
        rw [List.getElem?_eq_getElem hlt] at this
        exact List.mem_of_getElem? this.symm
      rw [(loR_mem.1 h2).2] at h1; cases h1
  constructor
  · have h9 : R.take k = (loR R p ++ (eqR R p ++ hiR R p)).take k := congrArg (fun l => l.take k) e
    rw [h9, ← hl, List.take_left]
  · have h9 : R.drop k = (loR R p ++ (eqR R p ++ hiR R p)).drop k := congrArg (fun l => l.drop k) e
    rw [h9, ← hl, List.drop_left]
theorem there_split {R : List Bm} {p : ByteArray} {k : Nat} (hr : rising R) (hk : k ≤ R.length) (h : bound R p k k) :
    (thereB R p k = true ∧ k < R.length ∧ R.drop (k + 1) = hiR R p ∧ ∃ q, eqR R p = [q] ∧ q.1 = p) ∨ (thereB R p k = false ∧ R.drop k = hiR R p ∧ eqR R p = []) := by
  obtain ⟨h1, h2⟩ := bound_split hr hk h
  rcases (three_R hr p).2 with ⟨e1, _⟩ | ⟨q, e1, e2⟩
  · refine Or.inr ⟨?_, by rw [h2, e1, List.nil_append], e1⟩
    unfold thereB
    cases e : R[k]? with
    | none => rfl
    | some m =>
      simp only
      refine decide_eq_false (fun e3 => ?_)
      have : m ∈ eqR R p := List.mem_filter.2 ⟨List.mem_of_getElem? e, decide_eq_true e3⟩
      rw [e1] at this; cases this
  · have hlt : k < R.length := by
      have := congrArg List.length h2
      rw [e1] at this
      simp at this
      omega
    have h3 := List.drop_eq_getElem_cons hlt
    rw [h2, e1] at h3
    simp only [List.singleton_append, List.cons.injEq] at h3
    refine Or.inl ⟨?_, hlt, h3.2.symm, q, e1, e2⟩
    unfold thereB
    rw [List.getElem?_eq_getElem hlt]
    simp only
    rw [← h3.1]
    exact decide_eq_true e2
end Ve
end Go.Proofs.YtjhlkjgijbobcaaGreatDoor
