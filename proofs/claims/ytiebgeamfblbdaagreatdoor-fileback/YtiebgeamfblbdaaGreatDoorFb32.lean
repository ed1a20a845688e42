/-
  FileI
-/
import Derived.Test.YtiebgeamfblbdaaGreatDoorFb31
namespace Go.Proofs.YtiebgeamfblbdaaGreatDoor
open Go.RowKit
namespace Ve
def LineP (kp : Nat × Array Value) (w0 w' : World) (fb : Nat) (A : Nat → Addr) (f : Fs) (e : Ending) (o : Option Fs) : Prop := match o with
  | some f' => e = .returned .nilIface ∧ ∃ v u, Rd kp w0 w' fb f' v u
  | none => e = .returned (errA A 1) ∧ ∃ v u, Rd kp w0 w' fb f v u
theorem line_any (s : ByteArray) (l : List UInt8) (i : Nat) (f : Fs) (v u : Value) (A : Nat → Addr) (m : Int) (kp : Nat × Array Value) (w0 w : World) (fb : Nat) (hs : s.size < 4294967281) (S : Te w A m) (R : Rd kp w0 w fb f v u) (h : s.data.toList = l ++ [10]) (hn : f.2.1.length + f.2.2.length ≤ 1000000) :
    Calls Tryz.prog 41 #[.pointer (some ⟨fb, 0, none⟩), .int .i64 i, .string s] w fun e w' => LineP kp w0 w' fb A f e (stepF i (cutAt 32 l) f) := by
  by_cases hi : i = 0
  · match hw : cutAt 32 l with
    | [a, b] =>
      by_cases ha : a = wModule
      · have hst : stepF i [a, b] f = some (bt b, f.2) := by unfold stepF; rw [if_pos hi]; simp only; rw [if_pos ha]
        rw [hst]
        exact (line_mod s l (bt b) i f v u A m kp w0 w fb hs S R h (by rw [hw, ha, bt_list]) hi).mono fun e w' ⟨h1, h2⟩ => ⟨h1, _, _, h2⟩
      · have hst : stepF i [a, b] f = none := by unfold stepF; rw [if_pos hi]; simp only; rw [if_neg ha]
        rw [hst]
        exact (line_e2 s l a b i f v u A m kp w0 w fb hs S R h hw ha hi).mono fun e w' ⟨h1, h2⟩ => ⟨h1, _, _, h2⟩
    | [] => exact absurd hw (cutAt_ne 32 l)
    | [a] =>
      have hst : stepF i [a] f = none := by unfold stepF; rw [if_pos hi]
      rw [hst]
      exact (line_e1 s l i f v u A m kp w0 w fb hs S R h (by rw [hw]; simp) hi).mono fun e w' ⟨h1, h2⟩ => ⟨h1, _, _, h2⟩
    | a :: b :: c :: r =>
      have hst : stepF i (a :: b :: c :: r) f = none := by unfold stepF; rw [if_pos hi]
      rw [hst]
      exact (line_e1 s l i f v u A m kp w0 w fb hs S R h (by rw [hw]; simp) hi).mono fun e w' ⟨h1, h2⟩ => ⟨h1, _, _, h2⟩
  · have hp : 0 < i := by omega
    match hw : cutAt 32 l with
    | [a, b, c] =>
      by_cases ha : a = wRequire
      · by_cases hx : f.2.2 = []
        · have hst : stepF i [a, b, c] f = some (f.1, f.2.1 ++ [(bt b, bt c)], f.2.2) := by unfold stepF; rw [if_neg hi]; simp only; rw [if_pos ⟨ha, hx⟩]
          rw [hst]
          exact line_req s l (bt b) (bt c) i f v u A m kp w0 w fb hs S R h (by rw [hw, ha, bt_list, bt_list]) hp hx (by omega)
        · have hst : stepF i [a, b, c] f = none := by unfold stepF; rw [if_neg hi]; simp only; rw [if_neg (fun h => hx h.2), if_neg (by rw [ha]; decide)]
          rw [hst]
          exact (line_e4 s l b c i f v u A m kp w0 w fb hs S R h (by rw [hw, ha]) hp hx).mono fun e w' ⟨h1, h2⟩ => ⟨h1, _, _, h2⟩
      · by_cases he : a = wExclude
        · have hst : stepF i [a, b, c] f = some (f.1, f.2.1, f.2.2 ++ [(bt b, bt c)]) := by unfold stepF; rw [if_neg hi]; simp only; rw [if_neg (fun h => ha h.1), if_pos he]
          rw [hst]
          exact line_exc s l (bt b) (bt c) i f v u A m kp w0 w fb hs S R h (by rw [hw, he, bt_list, bt_list]) hp (by omega)
        · have hst : stepF i [a, b, c] f = none := by unfold stepF; rw [if_neg hi]; simp only; rw [if_neg (fun h => ha h.1), if_neg he]
          rw [hst]
          exact (line_e5 s l a b c i f v u A m kp w0 w fb hs S R h hw ha he hp).mono fun e w' ⟨h1, h2⟩ => ⟨h1, _, _, h2⟩
    | [] => exact absurd hw (cutAt_ne 32 l)
    | [a] =>
      have hst : stepF i [a] f = none := by unfold stepF; rw [if_neg hi]
      rw [hst]
      exact (line_e3 s l i f v u A m kp w0 w fb hs S R h (by rw [hw]; simp) hp).mono fun e w' ⟨h1, h2⟩ => ⟨h1, _, _, h2⟩
    | [a, b] =>
      have hst : stepF i [a, b] f = none := by unfold stepF; rw [if_neg hi]
      rw [hst]
      exact (line_e3 s l i f v u A m kp w0 w fb hs S R h (by rw [hw]; simp) hp).mono fun e w' ⟨h1, h2⟩ => ⟨h1, _, _, h2⟩
    | a :: b :: c :: d :: r =>
      have hst : stepF i (a :: b :: c :: d :: r) f = none := by unfold stepF; rw [if_neg hi]
      rw [hst]
      exact (line_e3 s l i f v u A m kp w0 w fb hs S R h (by rw [hw]; simp) hp).mono fun e w' ⟨h1, h2⟩ => ⟨h1, _, _, h2⟩
set_option maxHeartbeats 1000000 in
theorem lineK_end (s : ByteArray) (l : List UInt8) (i : Nat) (f : Fs) (v u : Value) (A : Nat → Addr) (m : Int) (kp : Nat × Array Value) (w0 w : World) (fb : Nat) (hs : s.size < 4294967281) (S : Te w A m) (R : Rd kp w0 w fb f v u) (h : s.data.toList = l ++ [10]) (hn : f.2.1.length + f.2.2.length ≤ 1000000) :
    Calls Tryz.prog 40 #[.int .i64 i, .string s, .pointer (some ⟨fb, 0, none⟩)] w fun e w' => LineP kp w0 w' fb A f e (stepF i (cutAt 32 l) f) := by
  have HL := hid (line_any s l i f v u A m kp w0 w fb hs S R h hn)
  have hne : ¬ s = ⟨#[]⟩ := fun e => by
    rw [e] at h
    have := congrArg List.length h
    simp at this
  have hq := str_ne hne
  have hq' : (s.toList == []) = false := by
    rw [show ((⟨#[]⟩ : ByteArray).toList) = [] by rw [ByteArray.toList_eq]] at hq; exact hq
  clear S R h hne
  generalize stepF i (cutAt 32 l) f = o at *
  cases hp : decide (0 < i)
  · have hi : i = 0 := by have := of_decide_eq_false hp; omega
    subst hi
    clear hp
    go_enter Tryz.func40, Tryz.ntmps40
    go_wp2_with fail
    refine HL.out.mono ?_
    intro e w1 he
    cases o with
    | none =>
      obtain ⟨rfl, v', u', hr⟩ := he
      have HR := hid hr
      clear hr
      go_wp2_with fail
      go_ret
      exact ⟨rfl, _, _, HR.out⟩
    | some f' =>
      obtain ⟨rfl, v', u', hr⟩ := he
      have HR := hid hr
      clear hr
      go_wp2_with fail
      go_ret
      exact ⟨rfl, _, _, HR.out⟩
  · have hi : (0 : Int) < (i : Int) := by have := of_decide_eq_true hp; omega
    clear hp
    go_enter Tryz.func40, Tryz.ntmps40
    go_wp2_with fail
    refine HL.out.mono ?_
    intro e w1 he
    cases o with
    | none =>
      obtain ⟨rfl, v', u', hr⟩ := he
      have HR := hid hr
      clear hr
      go_wp2_with fail
      go_ret
      exact ⟨rfl, _, _, HR.out⟩
    | some f' =>
      obtain ⟨rfl, v', u', hr⟩ := he
      have HR := hid hr
      clear hr
      go_wp2_with fail
      go_ret
      exact ⟨rfl, _, _, HR.out⟩
set_option maxHeartbeats 1000000 in
theorem lineK_nil (i : Nat) (w : World) (fb : Nat) (hi : 0 < i) :
    Calls Tryz.prog 40 #[.int .i64 i, .string ⟨#[]⟩, .pointer (some ⟨fb, 0, none⟩)] w fun e w' => e = .returned .nilIface ∧ w' = w := by
  have hi : (0 : Int) < (i : Int) := by omega
  go_enter Tryz.func40, Tryz.ntmps40
  go_wp2_with fail
  go_ret
  exact ⟨rfl, rfl⟩
set_option maxHeartbeats 1000000 in
theorem lineK_open (s : ByteArray) (i : Nat) (A : Nat → Addr) (m : Int) (w : World) (fb : Nat) (hs : s.size < 4294967281) (S : Te w A m) (h : (10 : UInt8) ∉ s.data.toList) (hb : i = 0 ∨ ¬ s = ⟨#[]⟩) :
    Calls Tryz.prog 40 #[.int .i64 i, .string s, .pointer (some ⟨fb, 0, none⟩)] w fun e w' => e = .returned (errA A 1) ∧ w' = w := by
  have HL := hid (line_open s i A m w fb hs S h)
  clear S h
  by_cases hi : i = 0
  · subst hi
    clear hb
    go_enter Tryz.func40, Tryz.ntmps40
    go_wp2_with fail
    refine HL.out.mono ?_
    rintro e w ⟨rfl, rfl⟩
    go_wp2_with fail
    go_ret
    exact ⟨rfl, rfl⟩
  · have hne : ¬ s = ⟨#[]⟩ := hb.resolve_left hi
    have hi : (0 : Int) < (i : Int) := by omega
    have hq := str_ne hne
    have hq' : (s.toList == []) = false := by
      rw [show ((⟨#[]⟩ : ByteArray).toList) = [] by rw [ByteArray.toList_eq]] at hq; exact hq
    clear hb hne
    go_enter Tryz.func40, Tryz.ntmps40
    go_wp2_with fail
    refine HL.out.mono ?_
    rintro e w ⟨rfl, rfl⟩
    go_wp2_with fail
    go_ret
    exact ⟨rfl, rfl⟩
set_option maxHeartbeats 1000000 in
theorem first_strs (K : Nat) (cb : Array Value) (E : Nat → Nat) (X : List ByteArray) (pb c : Nat) (I : Nat → World → Prop) (J : World → Prop) (A : Nat → Addr) (w : World) (eg : ∀ args w, (callFunc K args).run Tryz.prog w = .ok (.enter K args) w) (hX : X.length ≤ 1000000)
    (hc : ∀ k W, I k W → ∀ j (h : j < X.length), W.cell? ⟨pb, j, none⟩ = some (.string X[j])) (hJ : ∀ k W, I k W → J W) (hA : ∀ W o, J W → J (W.alloc o)) (h0 : I 0 w)
    (hK : ∀ i (h : i < X.length) W, I i W → Calls Tryz.prog K (#[.int .i64 (i : Int), .string X[i]] ++ cb) W fun e w' => e = .returned (errA A (E i)) ∧ (E i = 0 → I (i + 1) w') ∧ J w') :
    Calls Tryz.prog 38 #[.slice (some ⟨pb, 0, none⟩) X.length c, .func (.func K) #[] cb] w fun e w' => ∃ v, e = .returned v ∧ ErrAt w' A v (codeE E X.length) (fstE E X.length) ∧ (fstE E X.length = none → I X.length w') ∧ J w' := by
  have HK := hid hK
  have HC := hid hc
  have HJ := hid hJ
  have HA := hid hA
  have H0 := hid h0
  clear hK hc hJ hA h0
  go_enter Tryz.func38, Tryz.ntmps38
  go_wp2_with fail
  go_loopw [10] (fun i wr => ∃ k : Nat, k ≤ X.length ∧ i = .int .i64 k ∧ Hid (∀ j, j < k → E j = 0) ∧ Hid (I k wr)) (fun i _ => X.length - (intOf i).toNat)
  case atStart => exact ⟨0, Nat.zero_le _, rfl, hid (fun j hj => absurd hj (by omega)), H0⟩
  case round =>
    obtain ⟨k, hk, rfl, HE, HI⟩ := hrel
    by_cases hlt : k < X.length
    · have hx := HC.out k wr HI.out k hlt
      have HP := hid (HK.out k hlt wr HI.out)
      by_cases he : E k = 0
      · rw [he, errA0] at HP
        go_wp2_with fail
        refine HP.out.mono ?_
        rintro e w1 ⟨rfl, hi, _⟩
        have HI1 := hid (hi trivial)
        clear hi
        go_wp2_with fail
        go_roundw
        case rel => exact ⟨k + 1, by omega, by go_num, hid (fun j hj => by
          rcases Nat.lt_or_ge j k with h | h
          · exact HE.out j h
          · have : j = k := by omega
            rw [this]; exact he), HI1⟩
        case measure => simp [intOf]; omega
      · rw [errA_if A he] at HP
        have HF := hid (fstE_some HE.out he hlt)
        have HN := hid he
        clear he
        go_wp2_with fail
        refine HP.out.mono ?_
        rintro e w1 ⟨rfl, _, hb1⟩
        have HB1 := hid hb1
        clear hb1
        go_wp2_with fail
        go_ret
        refine ⟨_, rfl, ?_, fun h => ?_, HA.out _ _ HB1.out⟩
        · rw [codeE_some HF.out, HF.out]
          exact fault_at HN.out _
        · rw [HF.out] at h; cases h
    · have HF := hid (fstE_none (E := E) (n := X.length) (fun j hj => HE.out j (by omega)))
      have HKN := hid (show k = X.length by omega)
      go_wp2_with fail
      go_ret
      refine ⟨_, rfl, ?_, fun _ => ?_, HJ.out k _ HI.out⟩
      · rw [codeE_none HF.out, HF.out]
        rfl
      · rw [← HKN.out]; exact HI.out
end Ve
end Go.Proofs.YtiebgeamfblbdaaGreatDoor
