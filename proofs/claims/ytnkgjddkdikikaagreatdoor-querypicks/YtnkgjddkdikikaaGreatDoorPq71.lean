/-
  QpA
-/
import Derived.Test.YtnkgjddkdikikaaGreatDoorPq3
import Derived.Test.YtnkgjddkdikikaaGreatDoorPq4
import Derived.Test.YtnkgjddkdikikaaGreatDoorPq7
import Derived.Test.YtnkgjddkdikikaaGreatDoorPq10
import Derived.Test.YtnkgjddkdikikaaGreatDoorPq13
import Derived.Test.YtnkgjddkdikikaaGreatDoorPq23
import Derived.Test.YtnkgjddkdikikaaGreatDoorPq27
import Derived.Test.YtnkgjddkdikikaaGreatDoorPq29
import Derived.Test.YtnkgjddkdikikaaGreatDoorPq31
import Derived.Test.YtnkgjddkdikikaaGreatDoorPq12
import Derived.Test.YtnkgjddkdikikaaGreatDoorPq5
import Derived.Test.YtnkgjddkdikikaaGreatDoorPq61
import Derived.Test.YtnkgjddkdikikaaGreatDoorPq62
import Derived.Test.YtnkgjddkdikikaaGreatDoorPq58
import Derived.Test.YtnkgjddkdikikaaGreatDoorPq24
import Derived.Test.YtnkgjddkdikikaaGreatDoorPq18
import Derived.Test.YtnkgjddkdikikaaGreatDoorPq35
import Derived.Test.YtnkgjddkdikikaaGreatDoorPq45
import Derived.Test.YtnkgjddkdikikaaGreatDoorPq1
import Derived.Test.YtnkgjddkdikikaaGreatDoorPq70
import Derived.Test.YtnkgjddkdikikaaGreatDoorPq66
namespace Go.Proofs.YtnkgjddkdikikaaGreatDoor
open Go.RowKit Go.Maps
namespace Ve
theorem pkF_le (Q : List Raw) (L : List Ent) (t q now : ByteArray) (X : List ByteArray) : (pkF Q L t q now X).1 ≤ 10 := by
  unfold pkF
  repeat' split
  · exact qErr_le _
  · exact chk_le _ _
  all_goals decide
set_option maxRecDepth 100000 in
set_option maxHeartbeats 4000000 in
theorem qp_main {T : World → Prop} (CC : CheckC) (PC : PickC T) (KT : KeepT T) (Q0 : List Raw) (L : List Ent) (t q now : ByteArray) (v : Value) (A : Nat → Addr) (m : Int) (w : World) (S : Te w A m) (hT : T w) (N : Er.Sen w A) (I : Ixs w v Q0 L) (em : EmI Q0 L) (hok : okI L = true) (ht : t.size ≤ 70) (hq : q.size ≤ 60) (hnow : now.size ≤ 60) :
    Calls Tryz.prog 7 #[v, .string t, .string q, .string now] w fun e w' => e = .returned (.bool true) ∧ Below w.heap.size w w' := by
  obtain ⟨a0, c0, hv0, -⟩ := id I.es
  subst hv0
  have hn101 : L.length ≤ 101 := by rcases (okI_iff hok).1 with h | h <;> omega
  have g1 : ¬ (70 : Int) < (t.size : Int) := by omega
  have g2 : ¬ (60 : Int) < (q.size : Int) := by omega
  have g3 : ¬ (60 : Int) < (now.size : Int) := by omega
  have HIN := hid (picked_any PC KT A m w S hT)
  have HLO := hid (fun W (h : Below w.heap.size w W) => longI_any Q0 L _ W (I.below h))
  rw [if_pos hok] at HLO
  have HOW := hid (fun W (h : Below w.heap.size w W) => ownI_any Q0 L _ W (by omega) (I.below h) em (okI_fits hok))
  have HCC := hid (fun W (h : Below w.heap.size w W) => CC q A m W (by omega) (S.below h))
  have HQE := hid (fun W => rqerr_any q W (by omega))
  have HCD := hid (fun W (h : Below w.heap.size w W) => coded3_any A (qErr q) W (N.below h) (qErr_le q))
  have HPO := hid (fun W (h : Below w.heap.size w W) => rpick_all Q0 L t q now _ W (by omega) (by omega) (by omega) (okI_sh hok) (okI_short I hok) (I.below h))
  have HPP := hid (fun Q u W (h : Below w.heap.size w W) (J : Ixs W u Q L) => PC Q L t q now u A m W (by omega) (okI_sh hok) (okI_short J hok) (by omega) (by omega) (by omega) (S.below h) (KT w W hT h) J)
  have HFA := hid (fun r W y (h : Below w.heap.size w W) (hr : r.1 ≤ 10) (he : ErrAt W A y r.1 r.2) => faulted3_any A y r W (N.below h) he hr)
  have HK0 := hid (keys_of I)
  obtain ⟨ke, hke⟩ : ∃ ke, errA A (qErr q) = ke := ⟨_, rfl⟩
  rw [hke] at HCC HCD
  clear S N I em hok CC PC hke KT hT
  go_enter Tryz.func7, Tryz.ntmps7
  go_wp2_with fail
  refine HIN.out.mono ?_
  rintro e w1 ⟨rfl, hb⟩
  have HB1 := hid hb
  clear hb
  go_wp2_with fail
  refine (HLO.out w1 HB1.out).mono ?_
  rintro e w2 ⟨rfl, hb⟩
  have HB2 := hid (HB1.out.trans (hb.mono HB1.out.size))
  clear hb
  go_wp2_with fail
  refine (HCC.out w2 HB2.out).mono ?_
  rintro e w3 ⟨rfl, hb⟩
  have HB3 := hid (HB2.out.trans (hb.mono HB2.out.size))
  clear hb
  go_wp2_with fail
  refine (HQE.out w3).mono ?_
  rintro e w4 ⟨rfl, hb⟩
  have HB4 := hid (HB3.out.trans (hb.mono HB3.out.size))
  clear hb
  go_wp2_with fail
  refine (HCD.out w4 HB4.out).mono ?_
  rintro e w5 ⟨rfl, hb⟩
  have HB5 := hid (HB4.out.trans (hb.mono HB4.out.size))
  clear hb HIN HLO HCC HQE HCD HB1 HB2 HB3 HB4
  go_wp2_with fail
  refine (HOW.out w5 HB5.out).mono ?_
  rintro e w6 ⟨ou, Q, rfl, hO, hb⟩
  have HB6 := hid (HB5.out.trans (hb.mono HB5.out.size))
  have HKQ := hid ((keys_of hO.ixs).trans HK0.out.symm)
  have HP6 := hid (HPP.out Q ou w6 HB6.out hO.ixs)
  obtain ⟨oa, oc, hou, -⟩ := id hO.ixs.es
  subst hou
  clear hb hO HOW HPP HK0
  go_wp2_with fail
  refine HP6.out.mono ?_
  rintro e w7 ⟨X, y, hK, rfl, he, hb⟩
  rw [(pk_same HKQ.out).1] at he
  rw [(pk_same HKQ.out).2]
  have HB7 := hid (HB6.out.trans (hb.mono HB6.out.size))
  have HE7 := hid he
  have HK7 := hid hK
  clear hb he hK HP6
  obtain ⟨P1, hP1⟩ : ∃ P1, pkV Q0 L t q now X = P1 := ⟨_, rfl⟩
  have HV1 := hid hP1
  rw [hP1]
  clear hP1
  go_wp2_with fail
  refine (HPO.out w7 HB7.out).mono ?_
  rintro e w8 ⟨X', hK', rfl, hb⟩
  have HXX := hid (pk_any (Q := Q0) (L := L) (t := t) (q := q) (now := now) (X := X') (X' := X) fun hl => by
    have h1 := hK' hl
    have h2 := HK7.out (by unfold look at hl ⊢; rw [chk_same (key_mod HKQ.out)]; exact hl)
    rw [verO_same HKQ.out] at h2
    exact kept_one h1 h2)
  rw [HXX.out.1, HXX.out.2, HV1.out]
  have HB8 := hid (HB7.out.trans (hb.mono HB7.out.size))
  have HE8 := hid (HE7.out.below hb)
  have HLE := hid (pkF_le Q0 L t q now X)
  have HF8 := hid (fun r W (h : Below w.heap.size w W) (hr : r.1 ≤ 10) (he : ErrAt W A y r.1 r.2) => HFA.out r W y h hr he)
  clear hb hK' HXX HK7 HV1 HFA
  obtain ⟨f1, hf1⟩ : ∃ f1, pkF Q0 L t q now X = f1 := ⟨_, rfl⟩
  rw [hf1] at HE8 HLE ⊢
  clear hf1 HE7
  obtain ⟨b1, b2⟩ := f1
  have HF9 := hid (fun W (h : Below w.heap.size w W) (he : ErrAt W A y b1 b2) => HF8.out (b1, b2) W h HLE.out he)
  unfold faultV at HF9 ⊢
  simp only at HF9 HE8 ⊢
  have HA9 := hid ((Below.refl w8.heap.size w8).alloc (Nat.le_refl _) (.cells #[.int .i64 (b1 : Nat), .int .i64 (atOf b2)] 62))
  have HB9 := hid (HB8.out.trans (HA9.out.mono HB8.out.size))
  have HE9 := hid (HE8.out.below HA9.out)
  have s1 := str_refl P1
  generalize ((b1 : Nat) : Int) = F1 at *
  generalize atOf b2 = F2 at *
  go_wp2_with fail
  generalize w8.alloc (.cells #[.int .i64 F1, .int .i64 F2] 62) = w9 at *
  refine (HF9.out w9 HB9.out HE9.out).mono ?_
  rintro e w10 ⟨rfl, hb⟩
  have HBe := hid (HB9.out.trans (hb.mono HB9.out.size))
  clear hb
  go_wp2_with fail
  go_ret
  exact ⟨rfl, HBe.out⟩
set_option maxRecDepth 100000 in
set_option maxHeartbeats 2000000 in
theorem qp_long {T : World → Prop} (PC : PickC T) (KT : KeepT T) (Q0 : List Raw) (L : List Ent) (t q now : ByteArray) (v : Value) (A : Nat → Addr) (m : Int) (w : World) (S : Te w A m) (hT : T w) (I : Ixs w v Q0 L) (h : okI L = false ∨ (okI L = true ∧ (70 < t.size ∨ (¬ 70 < t.size ∧ (60 < q.size ∨ (¬ 60 < q.size ∧ 60 < now.size)))))) :
    Calls Tryz.prog 7 #[v, .string t, .string q, .string now] w fun e w' => e = .returned (.bool true) ∧ Below w.heap.size w w' := by
  obtain ⟨a0, c0, hv0, -⟩ := id I.es
  subst hv0
  have HIN := hid (picked_any PC KT A m w S hT)
  have HLO := hid (fun W (h : Below w.heap.size w W) => longI_any Q0 L _ W (I.below h))
  rcases h with h | ⟨h, h1 | ⟨h1, h2 | ⟨h2, h3⟩⟩⟩
  · rw [h] at HLO
    clear S I h PC KT hT
    go_enter Tryz.func7, Tryz.ntmps7
    go_wp2_with fail
    refine HIN.out.mono ?_
    rintro e w1 ⟨rfl, hb⟩
    have HB1 := hid hb
    clear hb
    go_wp2_with fail
    refine (HLO.out w1 HB1.out).mono ?_
    rintro e w2 ⟨rfl, hb⟩
    have HB2 := hid (HB1.out.trans (hb.mono HB1.out.size))
    clear hb
    go_wp2_with fail
    go_ret
    exact ⟨rfl, HB2.out⟩
  · rw [if_pos h] at HLO
    have g1 : (70 : Int) < (t.size : Int) := by omega
    clear S I h PC KT hT
    go_enter Tryz.func7, Tryz.ntmps7
    go_wp2_with fail
    refine HIN.out.mono ?_
    rintro e w1 ⟨rfl, hb⟩
    have HB1 := hid hb
    clear hb
    go_wp2_with fail
    refine (HLO.out w1 HB1.out).mono ?_
    rintro e w2 ⟨rfl, hb⟩
    have HB2 := hid (HB1.out.trans (hb.mono HB1.out.size))
    clear hb
    go_wp2_with fail
    go_ret
    exact ⟨rfl, HB2.out⟩
  · rw [if_pos h] at HLO
    have g1 : ¬ (70 : Int) < (t.size : Int) := by omega
    have g2 : (60 : Int) < (q.size : Int) := by omega
    clear S I h PC KT hT
    go_enter Tryz.func7, Tryz.ntmps7
    go_wp2_with fail
    refine HIN.out.mono ?_
    rintro e w1 ⟨rfl, hb⟩
    have HB1 := hid hb
    clear hb
    go_wp2_with fail
    refine (HLO.out w1 HB1.out).mono ?_
    rintro e w2 ⟨rfl, hb⟩
    have HB2 := hid (HB1.out.trans (hb.mono HB1.out.size))
    clear hb
    go_wp2_with fail
    go_ret
    exact ⟨rfl, HB2.out⟩
  · rw [if_pos h] at HLO
    have g1 : ¬ (70 : Int) < (t.size : Int) := by omega
    have g2 : ¬ (60 : Int) < (q.size : Int) := by omega
    have g3 : (60 : Int) < (now.size : Int) := by omega
    clear S I h PC KT hT
    go_enter Tryz.func7, Tryz.ntmps7
    go_wp2_with fail
    refine HIN.out.mono ?_
    rintro e w1 ⟨rfl, hb⟩
    have HB1 := hid hb
    clear hb
    go_wp2_with fail
    refine (HLO.out w1 HB1.out).mono ?_
    rintro e w2 ⟨rfl, hb⟩
    have HB2 := hid (HB1.out.trans (hb.mono HB1.out.size))
    clear hb
    go_wp2_with fail
    go_ret
    exact ⟨rfl, HB2.out⟩
theorem queryPicks_any {T : World → Prop} (CC : CheckC) (PC : PickC T) (KT : KeepT T) (Q0 : List Raw) (L : List Ent) (t q now : ByteArray) (v : Value) (A : Nat → Addr) (m : Int) (w : World) (S : Te w A m) (hT : T w) (N : Er.Sen w A) (I : Ixs w v Q0 L) (em : EmI Q0 L) :
    Calls Tryz.prog 7 #[v, .string t, .string q, .string now] w fun e w' => e = .returned (.bool true) ∧ Below w.heap.size w w' := by
  cases hok : okI L with
  | false => exact qp_long PC KT Q0 L t q now v A m w S hT I (Or.inl hok)
  | true =>
    by_cases h1 : 70 < t.size
    · exact qp_long PC KT Q0 L t q now v A m w S hT I (Or.inr ⟨hok, Or.inl h1⟩)
    by_cases h2 : 60 < q.size
    · exact qp_long PC KT Q0 L t q now v A m w S hT I (Or.inr ⟨hok, Or.inr ⟨h1, Or.inl h2⟩⟩)
    by_cases h3 : 60 < now.size
    · exact qp_long PC KT Q0 L t q now v A m w S hT I (Or.inr ⟨hok, Or.inr ⟨h1, Or.inr ⟨h2, h3⟩⟩⟩)
    exact qp_main CC PC KT Q0 L t q now v A m w S hT N I em hok (by omega) (by omega) (by omega)
end Ve
end Go.Proofs.YtnkgjddkdikikaaGreatDoor
