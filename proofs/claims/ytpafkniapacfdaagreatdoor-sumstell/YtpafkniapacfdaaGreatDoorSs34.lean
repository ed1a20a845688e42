
import Derived.Test.YtpafkniapacfdaaGreatDoorSs25
import Derived.Test.YtpafkniapacfdaaGreatDoorSs8
import Derived.Test.YtpafkniapacfdaaGreatDoorSs6
import Derived.Test.YtpafkniapacfdaaGreatDoorSs31
import Derived.Test.YtpafkniapacfdaaGreatDoorSs33
import Derived.Test.YtpafkniapacfdaaGreatDoorSs28
import Derived.Test.YtpafkniapacfdaaGreatDoorSs32
import Derived.Deep.DeepCutAuto
namespace Go.Proofs.YtpafkniapacfdaaGreatDoor
open Go.RowKit
namespace Ve
theorem isB_belowS {T e : TypeId} {B b : Nat} {bs : List Value} {w w' : World} (h : Lib.IsBuilder T e B b bs w) (hb : Below w.heap.size w w') : Lib.IsBuilder T e B b bs w' := by
  have go : ∀ p, Lib.BuilderAt T e B b p bs w → Lib.BuilderAt T e B b p bs w' := fun p h => by
    have hlt := h.lt
    obtain ⟨h1, v, h2, h3, h4⟩ := h
    exact ⟨h1, v, by rw [hb.block _ hlt]; exact h2, owns_below h3 hb, h4⟩
  rcases h with h | h
  · exact Or.inl (go _ h)
  · exact Or.inr (go _ h)
theorem bytes_appS (a b : List UInt8) : Lib.byteCells (a ++ b) = Lib.byteCells a ++ Lib.byteCells b := by simp [Lib.byteCells]
theorem bytes_lenS (a : List UInt8) : (Lib.byteCells a).length = a.length := by simp [Lib.byteCells]
theorem strCellsS (s : ByteArray) : Lib.strCells s = Lib.byteCells s.data.toList := by simp [Lib.strCells, Lib.byteCells]
theorem res5 {w w3 : World} {a b c d e : Value} {T : TypeId} (hb : Below (w.heap.size + 1) (w.alloc (.cells #[a, b, c, d, e] T)) w3) :
    w3.cell? ⟨w.heap.size, 0, none⟩ = some a ∧ w3.cell? ⟨w.heap.size, 1, none⟩ = some b ∧ w3.cell? ⟨w.heap.size, 2, none⟩ = some c ∧ w3.cell? ⟨w.heap.size, 3, none⟩ = some d ∧ w3.cell? ⟨w.heap.size, 4, none⟩ = some e := by
  refine ⟨?_, ?_, ?_, ?_, ?_⟩ <;> (rw [hb.cell (by simp)]; simp)
theorem flat_bd {α : Type} (f : α → List UInt8) (N : Nat) : ∀ L : List α, (∀ x, x ∈ L → (f x).length ≤ N) → (L.flatMap f).length ≤ N * L.length
  | [], _ => by simp
  | x :: L, h => by
    have h1 := h x (List.mem_cons_self ..)
    have h2 := flat_bd f N L fun y hy => h y (List.mem_cons_of_mem _ hy)
    rw [List.flatMap_cons, List.length_append, List.length_cons, Nat.mul_succ]
    omega
theorem flat_next {α : Type} (f : α → List UInt8) {L : List α} {k : Nat} (h : k < L.length) : (L.take (k + 1)).flatMap f = (L.take k).flatMap f ++ f L[k] := by
  rw [List.take_succ_eq_append_getElem h, List.flatMap_append]; simp
theorem modText_len (p v : List UInt8) : (modText p v).length ≤ p.length + v.length + 1 := by
  unfold modText
  split
  · simp; omega
  · simp
theorem modL_len {m : Bm} (h : m.1.size ≤ 70 ∧ m.2.size ≤ 60) : (modL m).length ≤ 132 := by
  have := modText_len m.1.data.toList m.2.data.toList
  rw [len_eq, len_eq] at this
  unfold modL
  rw [List.length_append]
  simp only [List.length_cons, List.length_nil]
  omega
structure OkE (e : Ent) : Prop where
  m : e.1.1.size ≤ 70 ∧ e.1.2.size ≤ 60
  rn : e.2.1.length ≤ 25
  rs : ∀ x, x ∈ e.2.1 → x.1.size ≤ 70 ∧ x.2.size ≤ 60
  pn : e.2.2.1.length ≤ 15
  ps : ∀ x, x ∈ e.2.2.1 → x.size ≤ 70
theorem okE_is {e : Ent} (h : okE e = true) : OkE e := by
  unfold okE at h
  simp only [Bool.and_eq_true, decide_eq_true_eq] at h
  obtain ⟨⟨⟨⟨h1, h2⟩, h3⟩, h4⟩, h5⟩ := h
  obtain ⟨h6, h7⟩ := okL_iff h3
  exact ⟨⟨h1, h2⟩, h6, h7, h4, fun x hx => of_decide_eq_true (List.all_eq_true.1 h5 x hx)⟩
def packB (p : ByteArray) : List UInt8 := 47 :: (p.data.toList ++ [10])
theorem packB_len {p : ByteArray} (h : p.size ≤ 70) : (packB p).length ≤ 72 := by
  unfold packB
  simp only [List.length_cons, List.length_append, List.length_nil, len_eq]
  omega
theorem sumT_is (e : Ent) : sumT e = modL e.1 ++ e.2.1.flatMap modL ++ e.2.2.1.flatMap packB ++ (if e.2.2.2 then [45] else []) := rfl
theorem reqs_bd {e : Ent} (h : OkE e) (k : Nat) : (modL e.1 ++ (e.2.1.take k).flatMap modL).length ≤ 3500 := by
  have h1 := modL_len h.m
  have h2 := flat_bd modL 132 (e.2.1.take k) fun x hx => modL_len (h.rs x (List.mem_of_mem_take hx))
  have h3 : (e.2.1.take k).length ≤ 25 := by have := h.rn; simp; omega
  have h4 : 132 * (e.2.1.take k).length ≤ 132 * 25 := Nat.mul_le_mul_left _ h3
  rw [List.length_append]; omega
theorem packs_bd {e : Ent} (h : OkE e) (k : Nat) : (modL e.1 ++ e.2.1.flatMap modL ++ (e.2.2.1.take k).flatMap packB).length ≤ 5000 := by
  have h1 := reqs_bd h e.2.1.length
  rw [List.take_length] at h1
  have h2 := flat_bd packB 72 (e.2.2.1.take k) fun x hx => packB_len (h.ps x (List.mem_of_mem_take hx))
  have h3 : (e.2.2.1.take k).length ≤ 15 := by have := h.pn; simp; omega
  have h4 : 72 * (e.2.2.1.take k).length ≤ 72 * 15 := Nat.mul_le_mul_left _ h3
  rw [List.length_append]; omega
theorem sumT_len {e : Ent} (h : OkE e) : (sumT e).length ≤ 5001 := by
  have h1 := packs_bd h e.2.2.1.length
  rw [List.take_length] at h1
  rw [sumT_is, List.length_append]
  split <;> simp only [List.length_cons, List.length_nil] <;> omega
theorem TxAt.cellS {W : World} {a : Option Addr} {n c : Nat} {X : List ByteArray} (h : TxAt W (.slice a n c) X) {k : Nat} (hk : k < X.length) : ∃ b o, a = some ⟨b, o, none⟩ ∧ W.cell? ⟨b, o + k, none⟩ = some (.string X[k]) := tx_cellK h hk
set_option maxRecDepth 100000 in
set_option maxHeartbeats 4000000 in
theorem etext_any (e : Ent) (ra rc pa pc : _) (A : Nat → Addr) (m : Int) (w : World) (S : Te w A m) (h : OkE e) (hr : MsAt w (.slice ra e.2.1.length rc) e.2.1) (hp : TxAt w (.slice pa e.2.2.1.length pc) e.2.2.1) :
    Calls Tryz.prog 46 #[.agg #[.string e.1.1, .string e.1.2, .slice ra e.2.1.length rc, .slice pa e.2.2.1.length pc, .bool e.2.2.2]] w fun en w' => en = .returned (.string (bt (sumT e))) ∧ Below w.heap.size w w' := by
  obtain ⟨⟨p, v⟩, R, P, bk⟩ := e
  have HO := hid h
  have HSU := hid (sumT_is ((p, v), R, P, bk))
  have HRB := hid (reqs_bd h)
  have HPB := hid (packs_bd h)
  dsimp only at hr hp ⊢
  dsimp only at HSU HRB HPB
  generalize sumT ((p, v), R, P, bk) = T at *
  have HB0 := hid ((Below.refl w.heap.size w).alloc (Nat.le_refl _) (.cells #[.string p, .string v, .slice ra R.length rc, .slice pa P.length pc, .bool bk] 55))
  obtain ⟨w1, HW1⟩ : ∃ w1, Hid (w1 = w.alloc (.cells #[.string p, .string v, .slice ra R.length rc, .slice pa P.length pc, .bool bk] 55)) := ⟨_, hid rfl⟩
  have HZ1 := hid (show w1.heap.size = w.heap.size + 1 by rw [HW1.out]; simp)
  have HI := hid (show Lib.IsBuilder 79 5 (w.heap.size + 1) (w.heap.size + 1) [] (w1.alloc (.cells #[.pointer none, .slice none 0 0] 79)) by have h := Lib.fresh_isBuilder 79 5 w1; rw [HZ1.out] at h; exact h)
  have HBb := hid ((Below.refl w1.heap.size w1).alloc (Nat.le_refl _) (.cells #[.pointer none, .slice none 0 0] 79))
  have HB1 := hid (show Below w.heap.size w w1 by rw [HW1.out]; exact HB0.out)
  have HS1 := hid (S.below (HB1.out.trans (HBb.out.mono HB1.out.size)))
  have HR := hid (fun W (hW : Below w1.heap.size w1 W) => hr.below (HB1.out.trans (hW.mono HB1.out.size)))
  have HP := hid (fun W (hW : Below w1.heap.size w1 W) => hp.below (HB1.out.trans (hW.mono HB1.out.size)))
  have HCE := hid (fun W (hW : Below w1.heap.size w1 W) => res5 (w := w) (a := .string p) (b := .string v) (c := .slice ra R.length rc) (d := .slice pa P.length pc) (e := .bool bk) (T := 55) (w3 := W) (by
    have := hW; rw [HZ1.out] at this; rw [← HW1.out]; exact this))
  have HTe := hid (fun W (hW : Below w1.heap.size w1 W) => S.below (HB1.out.trans (hW.mono HB1.out.size)))
  clear hr hp S h
  have hz := HO.out.m
  have g1 : p.size < 999999 := by have := hz.1; dsimp only at this; omega
  have g2 : v.size < 999999 := by have := hz.2; dsimp only at this; omega
  clear hz
  go_enter Tryz.func46, Tryz.ntmps46
  go_wp2_with fail
  rw [← HW1.out]
  refine (mtext_any p v A m _ g1 g2 HS1.out).mono ?_
  rintro e w2 ⟨T0, rfl, hT0, hb⟩
  have HB2 := hid (HBb.out.trans (hb.mono HBb.out.size))
  have HI2 := hid (isB_belowS HI.out hb)
  have HSE := hid (show (T0 ++ (⟨#[10]⟩ : ByteArray)).data.toList = modL (p, v) by simp [modL, hT0])
  have HSZ := hid (show (T0 ++ (⟨#[10]⟩ : ByteArray)).size ≤ 132 by rw [← len_eq, HSE.out]; exact modL_len HO.out.m)
  have ht0 : T0.size ≤ 132 := by have h := HSZ.out; rw [ByteArray.size_append] at h; omega
  clear hT0 hb
  go_wp2_with fail
  refine (write_any (w.heap.size + 1) (w.heap.size + 1) [] _ _ HI2.out (by have := HSZ.out; simp only [List.length_nil]; omega) (by have := HB2.out.size; have := HZ1.out; omega)).mono ?_
  rintro e w3 ⟨rfl, hI, hb⟩
  have HB3 := hid (HB2.out.trans (show Below w1.heap.size w2 w3 by rw [HZ1.out]; exact hb))
  have HI3 := hid (show Lib.IsBuilder 79 5 (w.heap.size + 1) (w.heap.size + 1) (Lib.byteCells (modL (p, v) ++ (R.take 0).flatMap modL)) w3 by
    rw [List.take_zero, List.flatMap_nil, List.append_nil, ← HSE.out, ← strCellsS]; exact Or.inr hI)
  clear hI hb
  obtain ⟨c0, c1, c2, c3, c4⟩ := HCE.out w3 HB3.out
  go_wp2_with fail
  go_loopw [16] (fun i wr => ∃ k : Nat, k ≤ R.length ∧ i = .int .i64 k ∧ Hid (Below w1.heap.size w1 wr) ∧ Hid (Lib.IsBuilder 79 5 (w.heap.size + 1) (w.heap.size + 1) (Lib.byteCells (modL (p, v) ++ (R.take k).flatMap modL)) wr)) (fun i _ => R.length - (intOf i).toNat)
  case atStart => exact ⟨0, Nat.zero_le _, rfl, HB3, HI3⟩
  case round =>
    clear c0 c1 c2 c3 c4
    obtain ⟨k, hk, rfl, HBk, HIk⟩ := hrel
    have hrn : R.length ≤ 25 := HO.out.rn
    by_cases hlk : k < R.length
    · obtain ⟨xb, xo, hxa, y0, y1⟩ := (HR.out _ HBk.out).cells hlk
      subst hxa
      have hkI := ix_lt hlk
      have hk0 := ix_pos k
      have HLK := hid hlk
      have hz := HO.out.rs R[k] (List.getElem_mem hlk)
      have HFN := hid (flat_next modL hlk)
      have HBD := hid (HRB.out k)
      generalize R[k] = x at *
      obtain ⟨x1, x2⟩ := x
      dsimp only at y0 y1
      have h1 : x1.size < 999999 := by have := hz.1; dsimp only at this; omega
      have h2 : x2.size < 999999 := by have := hz.2; dsimp only at this; omega
      have HML := hid (modL_len (m := (x1, x2)) hz)
      have HBa := hid (HBk.out.alloc HBk.out.size (.cells #[.string x1, .string x2] 42))
      have HIa := hid (isB_belowS HIk.out ((Below.refl wr.heap.size wr).alloc (Nat.le_refl _) (.cells #[.string x1, .string x2] 42)))
      clear hlk hz
      go_wp2_with fail
      refine (mtext_any x1 x2 A m _ h1 h2 (HTe.out _ HBa.out)).mono ?_
      rintro e w4 ⟨T1, rfl, hT1, hb⟩
      have HB4 := hid (HBa.out.trans (hb.mono HBa.out.size))
      have HI4 := hid (isB_belowS HIa.out hb)
      have HSE1 := hid (show (T1 ++ (⟨#[10]⟩ : ByteArray)).data.toList = modL (x1, x2) by simp [modL, hT1])
      have HSZ1 := hid (show (T1 ++ (⟨#[10]⟩ : ByteArray)).size ≤ 132 by rw [← len_eq, HSE1.out]; exact HML.out)
      have ht1 : T1.size ≤ 132 := by have h := HSZ1.out; rw [ByteArray.size_append] at h; omega
      clear hT1 hb
      go_wp2_with fail
      refine (write_any (w.heap.size + 1) (w.heap.size + 1) _ _ _ HI4.out (by have := HSZ1.out; have := HBD.out; rw [bytes_lenS]; omega) (by have := HB4.out.size; have := HZ1.out; omega)).mono ?_
      rintro e w5 ⟨rfl, hI, hb⟩
      have HB5 := hid (HB4.out.trans (show Below w1.heap.size w4 w5 by rw [HZ1.out]; exact hb))
      have HI5 := hid (show Lib.IsBuilder 79 5 (w.heap.size + 1) (w.heap.size + 1) (Lib.byteCells (modL (p, v) ++ (R.take (k + 1)).flatMap modL)) w5 by
        rw [HFN.out, ← List.append_assoc, bytes_appS, ← HSE1.out, ← strCellsS]; exact Or.inr hI)
      clear hI hb
      go_wp2_with fail
      go_roundw
      case rel => first | exact ⟨k + 1, HLK.out, nx_idx HLK.out (by omega), HB5, HI5⟩ | exact ⟨k + 1, HLK.out, nr_idx k, HB5, HI5⟩
      case measure => first | exact nx_meas HLK.out (by omega) | exact nr_meas HLK.out
    · have hkI := ix_nlt hlk
      have HTK := hid (show R.take k = R from List.take_of_length_le (by omega))
      rw [HTK.out] at HIk
      obtain ⟨c0, c1, c2, c3, c4⟩ := HCE.out wr HBk.out
      have HI6 := hid (show Lib.IsBuilder 79 5 (w.heap.size + 1) (w.heap.size + 1) (Lib.byteCells (modL (p, v) ++ R.flatMap modL ++ (P.take 0).flatMap packB)) wr by
        rw [List.take_zero, List.flatMap_nil, List.append_nil]; exact HIk.out)
      obtain ⟨wo, hwo⟩ : ∃ wo, wo = wr := ⟨_, rfl⟩
      subst hwo
      go_wp2_with fail
      go_loopw [28] (fun i wr => ∃ k : Nat, k ≤ P.length ∧ i = .int .i64 k ∧ Hid (Below w1.heap.size w1 wr) ∧ Hid (Lib.IsBuilder 79 5 (w.heap.size + 1) (w.heap.size + 1) (Lib.byteCells (modL (p, v) ++ R.flatMap modL ++ (P.take k).flatMap packB)) wr)) (fun i _ => P.length - (intOf i).toNat)
      case atStart => exact ⟨0, Nat.zero_le _, rfl, HBk, HI6⟩
      case round =>
        clear c0 c1 c2 c3 c4 hkI hlk hk
        obtain ⟨k, hk, rfl, HBk, HIk⟩ := hrel
        have hpn : P.length ≤ 15 := HO.out.pn
        by_cases hlk : k < P.length
        · obtain ⟨xb, xo, hxa, y0⟩ := (HP.out _ HBk.out).cellS hlk
          subst hxa
          have hkI := ix_lt hlk
          have hk0 := ix_pos k
          have HLK := hid hlk
          have hz := HO.out.ps P[k] (List.getElem_mem hlk)
          have HFN := hid (flat_next packB hlk)
          have HBD := hid (HPB.out k)
          generalize P[k] = x at *
          have HML := hid (packB_len (p := x) hz)
          have HSE1 := hid (show ((⟨#[47]⟩ : ByteArray) ++ x ++ (⟨#[10]⟩ : ByteArray)).data.toList = packB x by simp [packB])
          have HSZ1 := hid (show ((⟨#[47]⟩ : ByteArray) ++ x ++ (⟨#[10]⟩ : ByteArray)).size ≤ 72 by rw [← len_eq, HSE1.out]; exact HML.out)
          clear hlk
          go_wp2_with fail
          refine (write_any (w.heap.size + 1) (w.heap.size + 1) _ _ _ HIk.out (by have := HSZ1.out; have := HBD.out; rw [bytes_lenS]; omega) (by have := HBk.out.size; have := HZ1.out; omega)).mono ?_
          rintro e w5 ⟨rfl, hI, hb⟩
          have HB5 := hid (HBk.out.trans (show Below w1.heap.size wr w5 by rw [HZ1.out]; exact hb))
          have HI5 := hid (show Lib.IsBuilder 79 5 (w.heap.size + 1) (w.heap.size + 1) (Lib.byteCells (modL (p, v) ++ R.flatMap modL ++ (P.take (k + 1)).flatMap packB)) w5 by
            rw [HFN.out, ← List.append_assoc, bytes_appS, ← HSE1.out, ← strCellsS]; exact Or.inr hI)
          clear hI hb
          go_wp2_with fail
          go_roundw
          case rel => first | exact ⟨k + 1, HLK.out, nx_idx HLK.out (by omega), HB5, HI5⟩ | exact ⟨k + 1, HLK.out, nr_idx k, HB5, HI5⟩
          case measure => first | exact nx_meas HLK.out (by omega) | exact nr_meas HLK.out
        · have hkI := ix_nlt hlk
          have HTK := hid (show P.take k = P from List.take_of_length_le (by omega))
          rw [HTK.out] at HIk
          have HBD := hid (HPB.out P.length)
          rw [List.take_length] at HBD
          obtain ⟨c0, c1, c2, c3, c4⟩ := HCE.out wr HBk.out
          cases bk
          · go_wp2_with fail
            refine (Tryz.Builder_String_any (w.heap.size + 1) (w.heap.size + 1) _ wr HIk.out (by have := HBk.out.size; have := HZ1.out; omega)).mono ?_
            rintro e w5 ⟨rfl, hb⟩
            have HB5 := hid (HBk.out.trans (show Below w1.heap.size wr w5 by rw [HZ1.out]; exact hb))
            clear hb
            go_wp2_with fail
            go_ret
            exact ⟨by rw [HSU.out, if_neg (by simp), List.append_nil]; simp only [List.append_assoc]; rfl, HB1.out.trans (HB5.out.mono HB1.out.size)⟩
          · go_wp2_with fail
            refine (write_any (w.heap.size + 1) (w.heap.size + 1) _ ⟨#[45]⟩ _ HIk.out (by have := HBD.out; rw [bytes_lenS]; have : (⟨#[45]⟩ : ByteArray).size = 1 := rfl; omega) (by have := HBk.out.size; have := HZ1.out; omega)).mono ?_
            rintro e w4 ⟨rfl, hI, hb⟩
            have HB4 := hid (HBk.out.trans (show Below w1.heap.size wr w4 by rw [HZ1.out]; exact hb))
            have HI4 := hid (show Lib.IsBuilder 79 5 (w.heap.size + 1) (w.heap.size + 1) (Lib.byteCells (modL (p, v) ++ R.flatMap modL ++ P.flatMap packB ++ [45])) w4 by
              rw [bytes_appS _ [45]]; exact Or.inr hI)
            clear hI hb
            go_wp2_with fail
            refine (Tryz.Builder_String_any (w.heap.size + 1) (w.heap.size + 1) _ w4 HI4.out (by have := HB4.out.size; have := HZ1.out; omega)).mono ?_
            rintro e w5 ⟨rfl, hb⟩
            have HB5 := hid (HB4.out.trans (show Below w1.heap.size w4 w5 by rw [HZ1.out]; exact hb))
            clear hb
            go_wp2_with fail
            go_ret
            exact ⟨by rw [HSU.out]; simp only [if_true, List.append_assoc]; rfl, HB1.out.trans (HB5.out.mono HB1.out.size)⟩
set_option maxHeartbeats 1000000 in
theorem of_any (e : Ent) (ra rc pa pc : _) (A : Nat → Addr) (m : Int) (w : World) (S : Te w A m) (h : OkE e) (hr : MsAt w (.slice ra e.2.1.length rc) e.2.1) (hp : TxAt w (.slice pa e.2.2.1.length pc) e.2.2.1) :
    Calls Tryz.prog 16 #[.agg #[.string e.1.1, .string e.1.2, .slice ra e.2.1.length rc, .slice pa e.2.2.1.length pc, .bool e.2.2.2]] w fun en w' => en = .returned (.int .u32 (sumE e : Nat)) ∧ Below w.heap.size w w' := by
  have HB0 := hid ((Below.refl w.heap.size w).alloc (Nat.le_refl _) (.cells #[.string e.1.1, .string e.1.2, .slice ra e.2.1.length rc, .slice pa e.2.2.1.length pc, .bool e.2.2.2] 55))
  have HT := hid (etext_any e ra rc pa pc A m _ (S.below HB0.out) h (hr.below HB0.out) (hp.below HB0.out))
  have hsz : (bt (sumT e)).size ≤ 1000000 := by have := sumT_len h; rw [← len_eq, bt_list]; omega
  have HC := hid (fun W => crc_any (bt (sumT e)) W hsz)
  rw [bt_list] at HC
  have HE := hid (show crcL (sumT e) = sumE e from rfl)
  clear S h hr hp
  generalize bt (sumT e) = T at *
  generalize crcL (sumT e) = c at *
  go_enter Tryz.func16, Tryz.ntmps16
  go_wp2_with fail
  refine HT.out.mono ?_
  rintro en w1 ⟨rfl, hb⟩
  have HB1 := hid (HB0.out.trans (hb.mono HB0.out.size))
  clear hb
  go_wp2_with fail
  refine (HC.out w1).mono ?_
  rintro en w2 ⟨rfl, hb⟩
  have HB2 := hid (HB1.out.trans (hb.mono HB1.out.size))
  clear hb
  go_wp2_with fail
  go_ret
  exact ⟨congrArg (fun z : Nat => Ending.returned (Value.int .u32 z)) HE.out, HB2.out⟩
end Ve
end Go.Proofs.YtpafkniapacfdaaGreatDoor


namespace Go.Proofs.YtpafkniapacfdaaGreatDoor
open Go.RowKit Go.Maps
namespace Ve
def univ (L : List Ent) : List Bm := L.map fun e => e.1
theorem ixs_get {w : World} {v : Value} {Q : List Raw} {L : List Ent} (I : Ixs w v Q L) {j : Nat} (hj : j < Q.length) : ∃ hj' : j < L.length, Q[j].1 = L[j].1 := by
  have hj' : j < L.length := by rw [← I.ln]; exact hj
  exact ⟨hj', (I.ok j hj hj').m⟩
theorem isM_iff {m : Bm} {r : Raw} : isM m r = true ↔ r.1 = m := by
  unfold isM
  constructor
  · intro h; have h2 := of_decide_eq_true h; exact Prod.ext h2.1 h2.2
  · intro h; exact decide_eq_true (by rw [h]; exact ⟨rfl, rfl⟩)
theorem idx_nat (P : Raw → Bool) (Q : List Raw) : idxOf P Q = -1 ∨ ∃ k : Nat, idxOf P Q = (k : Int) := by
  unfold idxOf
  cases fstE (idxE P Q) Q.length with
  | none => exact Or.inl rfl
  | some k => exact Or.inr ⟨k, rfl⟩
theorem idx_none {P : Raw → Bool} {Q : List Raw} (h : idxOf P Q = -1) : ∀ r, r ∈ Q → P r = false := fun r hr => by
  obtain ⟨j, hj, rfl⟩ := List.getElem_of_mem hr
  unfold idxOf at h
  cases h1 : fstE (idxE P Q) Q.length with
  | some k => rw [h1] at h; simp only at h; omega
  | none =>
    have := fstE_of_none h1 j hj
    rw [idxE_at hj] at this
    cases hp : P Q[j] with
    | false => rfl
    | true => rw [hp] at this; simp at this
theorem found_iff {w : World} {v : Value} {Q : List Raw} {L : List Ent} (I : Ixs w v Q L) (m : Bm) : m ∈ univ L ↔ ∃ k : Nat, idxOf (isM m) Q = (k : Int) := by
  constructor
  · intro h
    rcases idx_nat (isM m) Q with h1 | h1
    · obtain ⟨e, he, rfl⟩ := List.mem_map.1 h
      obtain ⟨j, hj, rfl⟩ := List.getElem_of_mem he
      have hj2 : j < Q.length := by rw [I.ln]; exact hj
      have := idx_none h1 Q[j] (List.getElem_mem hj2)
      rw [isM_iff.2 (I.ok j hj2 hj).m] at this
      cases this
    · exact h1
  · rintro ⟨k, h⟩
    obtain ⟨hk, h1⟩ := idx_is h
    obtain ⟨hk', h2⟩ := ixs_get I hk
    exact List.mem_map.2 ⟨L[k], List.getElem_mem hk', by rw [← h2]; exact isM_iff.1 h1⟩
end Ve
end Go.Proofs.YtpafkniapacfdaaGreatDoor


namespace Go.Proofs.YtpafkniapacfdaaGreatDoor
open Go.RowKit Go.Maps
namespace Ve
theorem put2_below {W w : World} {B b : Nat} {x y : Value} (h : Below B w W) (hb : B ≤ b) : Below B w ((W.setCell ⟨b, 0, none⟩ x).setCell ⟨b, 1, none⟩ y) :=
  (h.setCell (p := ⟨b, 0, none⟩) hb _).setCell (p := ⟨b, 1, none⟩) hb _
theorem nonE_five {Q : List Raw} {R : List Bm} : codeE (nonE Q R) R.length = 0 ∨ codeE (nonE Q R) R.length = 5 := by
  unfold codeE
  cases h : fstE (nonE Q R) R.length with
  | none => exact Or.inl rfl
  | some j =>
    obtain ⟨h1, h2, _⟩ := fstE_of_some h
    show nonE Q R j = 0 ∨ nonE Q R j = 5
    rw [nonE_at h1] at h2 ⊢
    unfold nonW at h2 ⊢
    by_cases h3 : idxOf (isM R[j]) Q < 0
    · rw [if_pos h3]; exact Or.inr rfl
    · rw [if_neg h3]; exact Or.inl rfl
theorem reqE2_bad {Q : List Raw} {L : List Ent} {i k : Nat} (hi : i < L.length) (hk : k < L[i].2.1.length) (h : idxOf (isM L[i].2.1[k]) Q < 0) : reqE2 Q L i = 5 := by
  rw [reqE2_at hi]
  rcases nonE_five (Q := Q) (R := L[i].2.1) with h1 | h1
  · exfalso
    unfold codeE at h1
    cases h2 : fstE (nonE Q L[i].2.1) L[i].2.1.length with
    | none =>
      have := fstE_of_none h2 k hk
      rw [nonE_at hk] at this
      unfold nonW at this
      rw [if_pos h] at this; cases this
    | some j =>
      rw [h2] at h1
      exact (fstE_of_some h2).2.1 h1
  · exact h1
theorem reqE2_good {Q : List Raw} {L : List Ent} {i : Nat} (hi : i < L.length) (h : ∀ k (hk : k < L[i].2.1.length), 0 ≤ idxOf (isM L[i].2.1[k]) Q) : reqE2 Q L i = 0 := by
  rw [reqE2_at hi]
  exact codeE_none (fstE_none fun j hj => by
    rw [nonE_at hj]
    unfold nonW
    rw [if_neg (Int.not_lt.2 (h j hj))])
set_option maxRecDepth 100000 in
set_option maxHeartbeats 8000000 in
theorem iFault_some (Q : List Raw) (L : List Ent) (b o c : Nat) (w : World) (hn : L.length ≤ 1000) (sh : ∀ e, e ∈ L → ShE e) (I : Ixs w (.slice (some ⟨b, o, none⟩) Q.length c) Q L) (h0 : 0 < L.length) :
    Calls Tryz.prog 48 #[.slice (some ⟨b, o, none⟩) Q.length c] w fun e w' => e = .returned (faultV (chk Q L)) ∧ Below w.heap.size w w' := by
  have HLN := hid I.ln
  have hqn : Q.length ≤ 1000 := by rw [I.ln]; exact hn
  have HB0 := hid ((Below.refl w.heap.size w).alloc (Nat.le_refl _) (.cells #[.int .i64 0, .int .i64 0] 47))
  have HE0 := hid (heap_new w (.cells #[.int .i64 0, .int .i64 0] 47))
  by_cases h1 : 100 < L.length
  · have q1 : (100 : Int) < (Q.length : Int) := by have := HLN.out; omega
    have HBR := hid (fun W => rbare_any 7 W)
    have HX := hid (chk_full (Q := Q) h1)
    clear I sh h1
    go_enter Tryz.func48, Tryz.ntmps48
    go_wp2_with fail
    refine (HBR.out _).mono ?_
    rintro e w1 ⟨rfl, hb⟩
    have HB1 := hid (HB0.out.trans (hb.mono HB0.out.size))
    have HE1 := hid ((hb.block _ (lt_of_blk HE0.out)).trans HE0.out)
    clear hb
    have s0 : w1.cell? ⟨w.heap.size, 0, none⟩ = some (.int .i64 0) := by rw [Lib.cell_of_heap HE1.out]; rfl
    have s1 : w1.cell? ⟨w.heap.size, 1, none⟩ = some (.int .i64 0) := by rw [Lib.cell_of_heap HE1.out]; rfl
    have tf := fun o => Lib.frozen_of_heap HE1.out o
    go_wp2_with fail
    refine bodyPost_ret (v := .agg #[.int .i64 7, .int .i64 (-1)]) (by simp [results, Tryz.results48, go_sem, s0, s1]) rfl ⟨by rw [HX.out]; rfl, ?_⟩
    exact put2_below HB1.out (Nat.le_refl _)
  · have q1 : ¬ (100 : Int) < (Q.length : Int) := by have := HLN.out; omega
    have HEN := hid (fun i (hi : i < L.length) W (h : Below w.heap.size w W) => entE_any Q L _ i W hn sh (I.below h) hi)
    have HFO := hid (fun m W (h : Below w.heap.size w W) => findOf_any Q m _ W (by omega) (by have := HLN.out; omega) (I.below h).es)
    have HFN := hid (fun W => fine_any W)
    have HI := hid I
    have HSZ := hid sh
    have H1 := hid h1
    clear I sh h1 hn h0
    go_enter Tryz.func48, Tryz.ntmps48
    go_wp2_with fail
    go_loopw [3] (fun iv wr => ∃ i : Nat, i ≤ Q.length ∧ iv = .int .i64 i ∧ Hid (∀ j, j < i → entE L j = 0) ∧ Hid (Below w.heap.size w wr) ∧ Hid (wr.heap[w.heap.size]? = some (.cells #[.int .i64 0, .int .i64 0] 47 (0, 0)))) (fun iv _ => Q.length - (intOf iv).toNat)
    case atStart => exact ⟨0, Nat.zero_le _, rfl, hid (fun j h => absurd h (Nat.not_lt_zero _)), HB0, HE0⟩
    case round =>
      obtain ⟨i, hi, rfl, HZ, HBr, HEr⟩ := hrel
      by_cases hlt : i < Q.length
      · have hiI : (i : Int) < (Q.length : Int) := by omega
        have HLT := hid hlt
        have hil : i < L.length := by rw [← HLN.out]; exact hlt
        have HE := hid (HEN.out i hil _ HBr.out)
        have HNX := hid (show entE L i = 0 → ∀ j, j < i + 1 → entE L j = 0 from fun h => zero_next HZ.out h)
        have HBD := hid (show entE L i ≠ 0 → chk Q L = (entE L i, some i) from fun h => chk_each H1.out (fstE_some HZ.out h hil))
        generalize entE L i = z at *
        clear hlt hil
        by_cases hz : z = 0
        · subst hz
          have HN2 := hid (HNX.out rfl)
          go_wp2_with fail
          refine HE.out.mono ?_
          rintro e w1 ⟨rfl, hb⟩
          have HB1 := hid (HBr.out.trans (hb.mono HBr.out.size))
          have HE1 := hid ((hb.block _ (lt_of_blk HEr.out)).trans HEr.out)
          clear hb
          go_wp2_with fail
          go_roundw
          case rel => first | exact ⟨i + 1, HLT.out, nr_idx i, HN2, HB1, HE1⟩ | exact ⟨i + 1, HLT.out, nx_idx HLT.out (by omega), HN2, HB1, HE1⟩
          case measure => first | exact nr_meas HLT.out | exact nx_meas HLT.out (by omega)
        · have HX := hid (HBD.out hz)
          have hpos : (0 : Int) < (z : Int) := by omega
          clear hz
          go_wp2_with fail
          refine HE.out.mono ?_
          rintro e w1 ⟨rfl, hb⟩
          have HB1 := hid (HBr.out.trans (hb.mono HBr.out.size))
          have HE1 := hid ((hb.block _ (lt_of_blk HEr.out)).trans HEr.out)
          clear hb
          have s0 : w1.cell? ⟨w.heap.size, 0, none⟩ = some (.int .i64 0) := by rw [Lib.cell_of_heap HE1.out]; rfl
          have s1 : w1.cell? ⟨w.heap.size, 1, none⟩ = some (.int .i64 0) := by rw [Lib.cell_of_heap HE1.out]; rfl
          have tf := fun o => Lib.frozen_of_heap HE1.out o
          go_wp2_with fail
          refine bodyPost_ret (v := .agg #[.int .i64 (z : Int), .int .i64 (i : Int)]) (by simp [results, Tryz.results48, go_sem, s0, s1]) rfl ⟨by rw [HX.out]; rfl, ?_⟩
          exact put2_below HB1.out (Nat.le_refl _)
      · have hiI : ¬ (i : Int) < (Q.length : Int) := by omega
        have HNE := hid (show fstE (entE L) L.length = none from fstE_none fun j hj => HZ.out j (by have := HLN.out; omega))
        have HX0 := hid (chk_reqs (Q := Q) H1.out HNE.out)
        clear hlt HZ HEN
        go_wp2_with fail
        go_loopw [5] (fun iv wr => ∃ i : Nat, i ≤ Q.length ∧ iv = .int .i64 i ∧ Hid (∀ j, j < i → reqE2 Q L j = 0) ∧ Hid (Below w.heap.size w wr) ∧ Hid (wr.heap[w.heap.size]? = some (.cells #[.int .i64 0, .int .i64 0] 47 (0, 0)))) (fun iv _ => Q.length - (intOf iv).toNat)
        case atStart => exact ⟨0, Nat.zero_le _, rfl, hid (fun j h => absurd h (Nat.not_lt_zero _)), HBr, HEr⟩
        case round =>
          obtain ⟨i2, hi2, rfl, HZ2, HB2, HE2⟩ := hrel
          by_cases hqi : i2 < Q.length
          · have hlt : i2 < L.length := by rw [← HLN.out]; exact hqi
            have hiI2 : (i2 : Int) < (Q.length : Int) := by omega
            have hi00 : (0 : Int) ≤ (i2 : Int) := by omega
            have HLI := hid hqi
            have HCE := hid (fun W (h : Below w.heap.size w W) => (es_all (HI.out.below h).es hqi).2.2.2.1)
            have HMR := hid (fun W (h : Below w.heap.size w W) => ((HI.out.below h).ok i2 hqi hlt).rq)
            have HNX := hid (show reqE2 Q L i2 = 0 → ∀ j, j < i2 + 1 → reqE2 Q L j = 0 from fun h => zero_next HZ2.out h)
            have HGD := hid (reqE2_good (Q := Q) hlt)
            have HBD := hid (fun k (hk : k < L[i2].2.1.length) h => show chk Q L = (5, some i2) by
              have h5 := reqE2_bad (Q := Q) hlt hk h
              have hs := fstE_some HZ2.out (by rw [h5]; decide) hlt
              rw [HX0.out, hs, codeE_some hs, h5])
            have hRl := (HSZ.out L[i2] (List.getElem_mem hlt)).rn
            generalize (L[i2]'hlt).2.1 = R at *
            generalize (Q[i2]'hqi).2.1 = rv at *
            obtain ⟨ra, rc, hrv, -⟩ := HMR.out w (Below.refl _ _)
            subst hrv
            clear hlt hqi
            go_wp2_with fail
            go_loopw [6] (fun kv wr => ∃ k : Nat, k ≤ R.length ∧ kv = .int .i64 k ∧ Hid (∀ j (h : j < R.length), j < k → 0 ≤ idxOf (isM R[j]) Q) ∧ Hid (Below w.heap.size w wr) ∧ Hid (wr.heap[w.heap.size]? = some (.cells #[.int .i64 0, .int .i64 0] 47 (0, 0)))) (fun kv _ => R.length - (intOf kv).toNat)
            case atStart => exact ⟨0, Nat.zero_le _, rfl, hid (fun j _ h => absurd h (Nat.not_lt_zero _)), HB2, HE2⟩
            case round =>
              obtain ⟨k, hk, rfl, HZ3, HB3, HE3⟩ := hrel
              have x2 := HCE.out _ HB3.out
              by_cases hlk : k < R.length
              · have hkI : (k : Int) < (R.length : Int) := by omega
                have hk0 : (0 : Int) ≤ (k : Int) := by omega
                obtain ⟨xb, xo, hxa, y0, y1⟩ := (HMR.out _ HB3.out).cells hlk
                subst hxa
                have HLK := hid hlk
                have HF := hid (HFO.out R[k] _ HB3.out)
                have HNK := hid (show 0 ≤ idxOf (isM R[k]) Q → ∀ j (h : j < R.length), j < k + 1 → 0 ≤ idxOf (isM R[j]) Q from fun h0 j h1 h3 => by
                  rcases Nat.lt_or_ge j k with h | h
                  · exact HZ3.out j h1 h
                  · have : j = k := by omega
                    subst this; exact h0)
                have HBK := hid (HBD.out k hlk)
                generalize R[k] = x at *
                obtain ⟨x1, x2'⟩ := x
                generalize idxOf (isM (x1, x2')) Q = ix at *
                clear hlk
                by_cases hix : ix < 0
                · have HX := hid (HBK.out hix)
                  go_wp2_with fail
                  refine HF.out.mono ?_
                  rintro e w1 ⟨rfl, hb⟩
                  have HB4 := hid (HB3.out.trans (hb.mono HB3.out.size))
                  have HE4 := hid ((hb.block _ (lt_of_blk HE3.out)).trans HE3.out)
                  clear hb
                  have s0 : w1.cell? ⟨w.heap.size, 0, none⟩ = some (.int .i64 0) := by rw [Lib.cell_of_heap HE4.out]; rfl
                  have s1 : w1.cell? ⟨w.heap.size, 1, none⟩ = some (.int .i64 0) := by rw [Lib.cell_of_heap HE4.out]; rfl
                  have tf := fun o => Lib.frozen_of_heap HE4.out o
                  go_wp2_with fail
                  refine bodyPost_ret (v := .agg #[.int .i64 5, .int .i64 (i2 : Int)]) (by simp [results, Tryz.results48, go_sem, s0, s1]) rfl ⟨by rw [HX.out]; rfl, ?_⟩
                  exact put2_below HB4.out (Nat.le_refl _)
                · have HN2 := hid (HNK.out (Int.not_lt.1 hix))
                  go_wp2_with fail
                  refine HF.out.mono ?_
                  rintro e w1 ⟨rfl, hb⟩
                  have HB4 := hid (HB3.out.trans (hb.mono HB3.out.size))
                  have HE4 := hid ((hb.block _ (lt_of_blk HE3.out)).trans HE3.out)
                  clear hb
                  go_wp2_with fail
                  go_roundw
                  case rel => first | exact ⟨k + 1, HLK.out, nr_idx k, HN2, HB4, HE4⟩ | exact ⟨k + 1, HLK.out, nx_idx HLK.out hRl, HN2, HB4, HE4⟩
                  case measure => first | exact nr_meas HLK.out | exact nx_meas HLK.out hRl
              · have hkI : ¬ (k : Int) < (R.length : Int) := by omega
                have HN2 := hid (HNX.out (HGD.out (fun j h => HZ3.out j h (by omega))))
                clear hlk
                go_wp2_with fail
                go_roundw
                case rel => first | exact ⟨i2 + 1, HLI.out, nr_idx i2, HN2, HB3, HE3⟩ | exact ⟨i2 + 1, HLI.out, nx_idx HLI.out (by omega), HN2, HB3, HE3⟩
                case measure => first | exact nr_meas HLI.out | exact nx_meas HLI.out (by omega)
          · have hiI2 : ¬ (i2 : Int) < (Q.length : Int) := by omega
            have HX := hid (show chk Q L = (0, none) by
              have hs := fstE_none (E := reqE2 Q L) (n := L.length) (fun j hj => HZ2.out j (by have := HLN.out; omega))
              rw [HX0.out, hs, codeE_none hs])
            clear hqi
            go_wp2_with fail
            refine (HFN.out _).mono ?_
            rintro e w1 ⟨rfl, hb⟩
            have HB4 := hid (HB2.out.trans (hb.mono HB2.out.size))
            have HE4 := hid ((hb.block _ (lt_of_blk HE2.out)).trans HE2.out)
            clear hb
            have s0 : w1.cell? ⟨w.heap.size, 0, none⟩ = some (.int .i64 0) := by rw [Lib.cell_of_heap HE4.out]; rfl
            have s1 : w1.cell? ⟨w.heap.size, 1, none⟩ = some (.int .i64 0) := by rw [Lib.cell_of_heap HE4.out]; rfl
            have tf := fun o => Lib.frozen_of_heap HE4.out o
            go_wp2_with fail
            refine bodyPost_ret (v := .agg #[.int .i64 0, .int .i64 (-1)]) (by simp [results, Tryz.results48, go_sem, s0, s1]) rfl ⟨by rw [HX.out]; rfl, ?_⟩
            exact put2_below HB4.out (Nat.le_refl _)
theorem iFault_none (a : Option Addr) (c : Nat) (w : World) : Calls Tryz.prog 48 #[.slice a 0 c] w fun e w' => e = .returned (faultV (0, none)) ∧ Below w.heap.size w w' := by
  have HB0 := hid ((Below.refl w.heap.size w).alloc (Nat.le_refl _) (.cells #[.int .i64 0, .int .i64 0] 47))
  have HE0 := hid (heap_new w (.cells #[.int .i64 0, .int .i64 0] 47))
  have HFN := hid (fun W => fine_any W)
  go_enter Tryz.func48, Tryz.ntmps48
  go_wp2_with fail
  go_loopw [3] (fun i wr => i = .int .i64 0 ∧ Hid (wr = w.alloc (.cells #[.int .i64 0, .int .i64 0] 47))) (fun i _ => 0)
  case atStart => exact ⟨rfl, hid rfl⟩
  case round =>
    obtain ⟨rfl, HW⟩ := hrel
    obtain rfl := HW.out
    clear HW
    go_wp2_with fail
    go_loopw [5] (fun i wr => i = .int .i64 0 ∧ Hid (wr = w.alloc (.cells #[.int .i64 0, .int .i64 0] 47))) (fun i _ => 0)
    case atStart => exact ⟨rfl, hid rfl⟩
    case round =>
      obtain ⟨rfl, HW⟩ := hrel
      obtain rfl := HW.out
      clear HW
      go_wp2_with fail
      refine (HFN.out _).mono ?_
      rintro e w1 ⟨rfl, hb⟩
      have HB4 := hid (HB0.out.trans (hb.mono HB0.out.size))
      have HE4 := hid ((hb.block _ (lt_of_blk HE0.out)).trans HE0.out)
      clear hb
      have s0 : w1.cell? ⟨w.heap.size, 0, none⟩ = some (.int .i64 0) := by rw [Lib.cell_of_heap HE4.out]; rfl
      have s1 : w1.cell? ⟨w.heap.size, 1, none⟩ = some (.int .i64 0) := by rw [Lib.cell_of_heap HE4.out]; rfl
      have tf := fun o => Lib.frozen_of_heap HE4.out o
      go_wp2_with fail
      refine bodyPost_ret (v := .agg #[.int .i64 0, .int .i64 (-1)]) (by simp [results, Tryz.results48, go_sem, s0, s1]) rfl ⟨rfl, ?_⟩
      exact put2_below HB4.out (Nat.le_refl _)
theorem iFault_any (Q : List Raw) (L : List Ent) (v : Value) (w : World) (hn : L.length ≤ 1000) (sh : ∀ e, e ∈ L → ShE e) (I : Ixs w v Q L) :
    Calls Tryz.prog 48 #[v] w fun e w' => e = .returned (faultV (chk Q L)) ∧ Below w.heap.size w w' := by
  obtain ⟨a, c, rfl, _, _, h⟩ := id I.es
  by_cases hQ : Q = []
  · subst hQ
    have hl : L = [] := List.length_eq_zero_iff.1 I.ln.symm
    subst hl
    exact iFault_none a c w
  · obtain ⟨b, o, rfl, _⟩ := h hQ
    exact iFault_some Q L b o c w hn sh I (by rw [← I.ln]; exact List.length_pos_iff.2 hQ)
end Ve
end Go.Proofs.YtpafkniapacfdaaGreatDoor


namespace Go.Proofs.YtpafkniapacfdaaGreatDoor
open Go.RowKit Go.Maps
namespace Ve
theorem isM_same {Q Q' : List Raw} (h : Q.map (fun r => r.1) = Q'.map (fun r => r.1)) (m : Bm) : idxOf (isM m) Q = idxOf (isM m) Q' := by
  have hl : Q.length = Q'.length := by have := congrArg List.length h; simpa using this
  have hf : idxE (isM m) Q = idxE (isM m) Q' := funext fun i => by
    have hi := congrArg (fun X : List Bm => X[i]?) h
    simp only [List.getElem?_map] at hi
    unfold idxE
    cases h1 : Q[i]? with
    | none =>
      rw [h1] at hi
      cases h2 : Q'[i]? with
      | none => rfl
      | some r => rw [h2] at hi; simp at hi
    | some r =>
      rw [h1] at hi
      cases h2 : Q'[i]? with
      | none => rw [h2] at hi; simp at hi
      | some r' =>
        rw [h2] at hi
        have : r.1 = r'.1 := by simpa using hi
        show (if isM m r then 1 else 0) = if isM m r' then 1 else 0
        rw [show isM m r = isM m r' by unfold isM; rw [this]]
  unfold idxOf
  rw [hf, hl]
theorem nonE_same {Q Q' : List Raw} (h : Q.map (fun r => r.1) = Q'.map (fun r => r.1)) (R : List Bm) : nonE Q R = nonE Q' R := funext fun i => by
  unfold nonE nonW
  split
  · rfl
  · rw [isM_same h]
theorem chk_same {Q Q' : List Raw} {L : List Ent} (h : Q.map (fun r => r.1) = Q'.map (fun r => r.1)) : chk Q L = chk Q' L := by
  have hr : reqE2 Q L = reqE2 Q' L := funext fun i => by
    unfold reqE2
    split
    · rfl
    · rw [nonE_same h]
  unfold chk
  rw [hr]
end Ve
end Go.Proofs.YtpafkniapacfdaaGreatDoor
