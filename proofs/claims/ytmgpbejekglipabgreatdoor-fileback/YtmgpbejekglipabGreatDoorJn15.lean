/-
  What readLine of package file does with any line; what place.First does over lines.
-/
import Derived.Test.YtmgpbejekglipabGreatDoorJn14
import Derived.WalkKit
import Derived.Lib.Builder
import Derived.Lib.AppendStr
import Derived.Lib.UnsafeStr
import Derived.Laws.Externs
namespace Go.Proofs.YtmgpbejekglipabGreatDoor
open Go.RowKit
namespace Ve

/-- What a line leaves behind it. -/
def LineP (kp : Nat × Array Value) (w0 w' : World) (fb : Nat) (A : Nat → Addr) (f : Fs) (e : Ending) (o : Option Fs) : Prop := match o with
  | some f' => e = .returned .nilIface ∧ ∃ v u, Rd kp w0 w' fb f' v u
  | none => e = .returned (errA A 1) ∧ ∃ v u, Rd kp w0 w' fb f v u
theorem line_any (s : ByteArray) (l : List UInt8) (i : Nat) (f : Fs) (v u : Value) (A : Nat → Addr) (m : Int) (kp : Nat × Array Value) (w0 w : World) (fb : Nat) (hs : s.size < 4294967281) (S : Te w A m) (R : Rd kp w0 w fb f v u) (h : s.data.toList = l ++ [10]) (hn : f.2.1.length + f.2.2.length ≤ 1000000) :
    Calls Tryz.prog 102 #[.pointer (some ⟨fb, 0, none⟩), .int .i64 i, .string s] w fun e w' => LineP kp w0 w' fb A f e (stepF i (cutAt 32 l) f) := by
  by_cases hi : i = 0
  · match hw : cutAt 32 l with
    | [a, b] =>
      by_cases ha : a = wModule
      · have hst : stepF i [a, b] f = some (bt b, f.2) := by unfold stepF; rw [if_pos hi]; simp only; rw [if_pos ha]
        rw [hst]
        exact (line_mod s l (bt b) i f v u A m kp w0 w fb hs S R h (by rw [hw, ha, bt_list]) hi).mono fun e w' ⟨h1, h2⟩ => ⟨h1, _, _, h2⟩
      · have hst : stepF i [a, b] f = none := by unfold stepF; rw [if_pos hi]; simp only; rw [if_neg ha]
        rw [hst]
        exact (line_e2 s l a b i f v u A m kp w0 w fb hs S R h hw ha hi).mono fun e w' ⟨h1, h2⟩ => ⟨h1, _, _, h2⟩
    | [] => exact absurd hw (cutAt_ne 32 l)
    | [a] =>
      have hst : stepF i [a] f = none := by unfold stepF; rw [if_pos hi]
      rw [hst]
      exact (line_e1 s l i f v u A m kp w0 w fb hs S R h (by rw [hw]; simp) hi).mono fun e w' ⟨h1, h2⟩ => ⟨h1, _, _, h2⟩
    | a :: b :: c :: r =>
      have hst : stepF i (a :: b :: c :: r) f = none := by unfold stepF; rw [if_pos hi]
      rw [hst]
      exact (line_e1 s l i f v u A m kp w0 w fb hs S R h (by rw [hw]; simp) hi).mono fun e w' ⟨h1, h2⟩ => ⟨h1, _, _, h2⟩
  · have hp : 0 < i := by omega
    match hw : cutAt 32 l with
    | [a, b, c] =>
      by_cases ha : a = wRequire
      · by_cases hx : f.2.2 = []
        · have hst : stepF i [a, b, c] f = some (f.1, f.2.1 ++ [(bt b, bt c)], f.2.2) := by unfold stepF; rw [if_neg hi]; simp only; rw [if_pos ⟨ha, hx⟩]
          rw [hst]
          exact line_req s l (bt b) (bt c) i f v u A m kp w0 w fb hs S R h (by rw [hw, ha, bt_list, bt_list]) hp hx (by omega)
        · have hst : stepF i [a, b, c] f = none := by unfold stepF; rw [if_neg hi]; simp only; rw [if_neg (fun h => hx h.2), if_neg (by rw [ha]; decide)]
          rw [hst]
          exact (line_e4 s l b c i f v u A m kp w0 w fb hs S R h (by rw [hw, ha]) hp hx).mono fun e w' ⟨h1, h2⟩ => ⟨h1, _, _, h2⟩
      · by_cases he : a = wExclude
        · have hst : stepF i [a, b, c] f = some (f.1, f.2.1, f.2.2 ++ [(bt b, bt c)]) := by unfold stepF; rw [if_neg hi]; simp only; rw [if_neg (fun h => ha h.1), if_pos he]
          rw [hst]
          exact line_exc s l (bt b) (bt c) i f v u A m kp w0 w fb hs S R h (by rw [hw, he, bt_list, bt_list]) hp (by omega)
        · have hst : stepF i [a, b, c] f = none := by unfold stepF; rw [if_neg hi]; simp only; rw [if_neg (fun h => ha h.1), if_neg he]
          rw [hst]
          exact (line_e5 s l a b c i f v u A m kp w0 w fb hs S R h hw ha he hp).mono fun e w' ⟨h1, h2⟩ => ⟨h1, _, _, h2⟩
    | [] => exact absurd hw (cutAt_ne 32 l)
    | [a] =>
      have hst : stepF i [a] f = none := by unfold stepF; rw [if_neg hi]
      rw [hst]
      exact (line_e3 s l i f v u A m kp w0 w fb hs S R h (by rw [hw]; simp) hp).mono fun e w' ⟨h1, h2⟩ => ⟨h1, _, _, h2⟩
    | [a, b] =>
      have hst : stepF i [a, b] f = none := by unfold stepF; rw [if_neg hi]
      rw [hst]
      exact (line_e3 s l i f v u A m kp w0 w fb hs S R h (by rw [hw]; simp) hp).mono fun e w' ⟨h1, h2⟩ => ⟨h1, _, _, h2⟩
    | a :: b :: c :: d :: r =>
      have hst : stepF i (a :: b :: c :: d :: r) f = none := by unfold stepF; rw [if_neg hi]
      rw [hst]
      exact (line_e3 s l i f v u A m kp w0 w fb hs S R h (by rw [hw]; simp) hp).mono fun e w' ⟨h1, h2⟩ => ⟨h1, _, _, h2⟩

set_option maxHeartbeats 1000000 in
/-- The closure of readLines at a line that has an end. -/
theorem lineK_end (s : ByteArray) (l : List UInt8) (i : Nat) (f : Fs) (v u : Value) (A : Nat → Addr) (m : Int) (kp : Nat × Array Value) (w0 w : World) (fb : Nat) (hs : s.size < 4294967281) (S : Te w A m) (R : Rd kp w0 w fb f v u) (h : s.data.toList = l ++ [10]) (hn : f.2.1.length + f.2.2.length ≤ 1000000) :
    Calls Tryz.prog 101 #[.int .i64 i, .string s, .pointer (some ⟨fb, 0, none⟩)] w fun e w' => LineP kp w0 w' fb A f e (stepF i (cutAt 32 l) f) := by
  have HL := hid (line_any s l i f v u A m kp w0 w fb hs S R h hn)
  have hne : ¬ s = ⟨#[]⟩ := fun e => by
    rw [e] at h
    have := congrArg List.length h
    simp at this
  have hq := str_ne hne
  have hq' : (s.toList == []) = false := by
    rw [show ((⟨#[]⟩ : ByteArray).toList) = [] by rw [ByteArray.toList_eq]] at hq; exact hq
  clear S R h hne
  generalize stepF i (cutAt 32 l) f = o at *
  cases hp : decide (0 < i)
  · have hi : i = 0 := by have := of_decide_eq_false hp; omega
    subst hi
    clear hp
    go_enter Tryz.func101, Tryz.ntmps101
    go_wp2_with fail
    refine HL.out.mono ?_
    intro e w1 he
    cases o with
    | none =>
      obtain ⟨rfl, v', u', hr⟩ := he
      have HR := hid hr
      clear hr
      go_wp2_with fail
      go_ret
      exact ⟨rfl, _, _, HR.out⟩
    | some f' =>
      obtain ⟨rfl, v', u', hr⟩ := he
      have HR := hid hr
      clear hr
      go_wp2_with fail
      go_ret
      exact ⟨rfl, _, _, HR.out⟩
  · have hi : (0 : Int) < (i : Int) := by have := of_decide_eq_true hp; omega
    clear hp
    go_enter Tryz.func101, Tryz.ntmps101
    go_wp2_with fail
    refine HL.out.mono ?_
    intro e w1 he
    cases o with
    | none =>
      obtain ⟨rfl, v', u', hr⟩ := he
      have HR := hid hr
      clear hr
      go_wp2_with fail
      go_ret
      exact ⟨rfl, _, _, HR.out⟩
    | some f' =>
      obtain ⟨rfl, v', u', hr⟩ := he
      have HR := hid hr
      clear hr
      go_wp2_with fail
      go_ret
      exact ⟨rfl, _, _, HR.out⟩
set_option maxHeartbeats 1000000 in
/-- .. at the last piece, which has none: it is empty. -/
theorem lineK_nil (i : Nat) (w : World) (fb : Nat) (hi : 0 < i) :
    Calls Tryz.prog 101 #[.int .i64 i, .string ⟨#[]⟩, .pointer (some ⟨fb, 0, none⟩)] w fun e w' => e = .returned .nilIface ∧ w' = w := by
  have hi : (0 : Int) < (i : Int) := by omega
  go_enter Tryz.func101, Tryz.ntmps101
  go_wp2_with fail
  go_ret
  exact ⟨rfl, rfl⟩
set_option maxHeartbeats 1000000 in
/-- .. it is the first, or not empty. -/
theorem lineK_open (s : ByteArray) (i : Nat) (A : Nat → Addr) (m : Int) (w : World) (fb : Nat) (hs : s.size < 4294967281) (S : Te w A m) (h : (10 : UInt8) ∉ s.data.toList) (hb : i = 0 ∨ ¬ s = ⟨#[]⟩) :
    Calls Tryz.prog 101 #[.int .i64 i, .string s, .pointer (some ⟨fb, 0, none⟩)] w fun e w' => e = .returned (errA A 1) ∧ w' = w := by
  have HL := hid (line_open s i A m w fb hs S h)
  clear S h
  by_cases hi : i = 0
  · subst hi
    clear hb
    go_enter Tryz.func101, Tryz.ntmps101
    go_wp2_with fail
    refine HL.out.mono ?_
    rintro e w ⟨rfl, rfl⟩
    go_wp2_with fail
    go_ret
    exact ⟨rfl, rfl⟩
  · have hne : ¬ s = ⟨#[]⟩ := hb.resolve_left hi
    have hi : (0 : Int) < (i : Int) := by omega
    have hq := str_ne hne
    have hq' : (s.toList == []) = false := by
      rw [show ((⟨#[]⟩ : ByteArray).toList) = [] by rw [ByteArray.toList_eq]] at hq; exact hq
    clear hb hne
    go_enter Tryz.func101, Tryz.ntmps101
    go_wp2_with fail
    refine HL.out.mono ?_
    rintro e w ⟨rfl, rfl⟩
    go_wp2_with fail
    go_ret
    exact ⟨rfl, rfl⟩

set_option maxHeartbeats 1000000 in
/-- place.First over texts, with what holds ahead of each. -/
theorem first_strs (K : Nat) (cb : Array Value) (E : Nat → Nat) (X : List ByteArray) (pb c : Nat) (I : Nat → World → Prop) (J : World → Prop) (A : Nat → Addr) (w : World) (eg : ∀ args w, (callFunc K args).run Tryz.prog w = .ok (.enter K args) w) (hX : X.length ≤ 1000000)
    (hc : ∀ k W, I k W → ∀ j (h : j < X.length), W.cell? ⟨pb, j, none⟩ = some (.string X[j])) (hJ : ∀ k W, I k W → J W) (hA : ∀ W o, J W → J (W.alloc o)) (h0 : I 0 w)
    (hK : ∀ i (h : i < X.length) W, I i W → Calls Tryz.prog K (#[.int .i64 (i : Int), .string X[i]] ++ cb) W fun e w' => e = .returned (errA A (E i)) ∧ (E i = 0 → I (i + 1) w') ∧ J w') :
    Calls Tryz.prog 99 #[.slice (some ⟨pb, 0, none⟩) X.length c, .func (.func K) #[] cb] w fun e w' => ∃ v, e = .returned v ∧ ErrAt w' A v (codeE E X.length) (fstE E X.length) ∧ (fstE E X.length = none → I X.length w') ∧ J w' := by
  have HK := hid hK
  have HC := hid hc
  have HJ := hid hJ
  have HA := hid hA
  have H0 := hid h0
  clear hK hc hJ hA h0
  go_enter Tryz.func99, Tryz.ntmps99
  go_wp2_with fail
  go_loopw [10] (fun i wr => ∃ k : Nat, k ≤ X.length ∧ i = .int .i64 k ∧ Hid (∀ j, j < k → E j = 0) ∧ Hid (I k wr)) (fun i _ => X.length - (intOf i).toNat)
  case atStart => exact ⟨0, Nat.zero_le _, rfl, hid (fun j hj => absurd hj (by omega)), H0⟩
  case round =>
    obtain ⟨k, hk, rfl, HE, HI⟩ := hrel
    by_cases hlt : k < X.length
    · have hx := HC.out k wr HI.out k hlt
      have HP := hid (HK.out k hlt wr HI.out)
      by_cases he : E k = 0
      · rw [he, errA0] at HP
        go_wp2_with fail
        refine HP.out.mono ?_
        rintro e w1 ⟨rfl, hi, _⟩
        have HI1 := hid (hi trivial)
        clear hi
        go_wp2_with fail
        go_roundw
        case rel => exact ⟨k + 1, by omega, by go_num, hid (fun j hj => by
          rcases Nat.lt_or_ge j k with h | h
          · exact HE.out j h
          · have : j = k := by omega
            rw [this]; exact he), HI1⟩
        case measure => simp [intOf]; omega
      · rw [errA_if A he] at HP
        have HF := hid (fstE_some HE.out he hlt)
        have HN := hid he
        clear he
        go_wp2_with fail
        refine HP.out.mono ?_
        rintro e w1 ⟨rfl, _, hb1⟩
        have HB1 := hid hb1
        clear hb1
        go_wp2_with fail
        go_ret
        refine ⟨_, rfl, ?_, fun h => ?_, HA.out _ _ HB1.out⟩
        · rw [codeE_some HF.out, HF.out]
          exact fault_at HN.out _
        · rw [HF.out] at h; cases h
    · have HF := hid (fstE_none (E := E) (n := X.length) (fun j hj => HE.out j (by omega)))
      have HKN := hid (show k = X.length by omega)
      go_wp2_with fail
      go_ret
      refine ⟨_, rfl, ?_, fun _ => ?_, HJ.out k _ HI.out⟩
      · rw [codeE_none HF.out, HF.out]
        rfl
      · rw [← HKN.out]; exact HI.out
end Ve
end Go.Proofs.YtmgpbejekglipabGreatDoor

/-
  What readLines of package file answers: the words of a file, or the first line that is wrong; nothing old in memory turns.
-/
namespace Go.Proofs.YtmgpbejekglipabGreatDoor
open Go.RowKit
namespace Ve

set_option maxHeartbeats 1000000 in
theorem splitAfter_any (s : ByteArray) (m : Int) (w : World) (hs : s.size < 4294967281) (hm : w.cell? ⟨11, 0, none⟩ = some (.int .i64 m)) :
    Calls Tryz.prog 100 #[.string s, .string ⟨#[10]⟩] w fun e w' => ∃ X : List ByteArray, e = .returned (.slice (some ⟨w.heap.size, 0, none⟩) X.length X.length) ∧ bl X = cutAfter 10 s.data.toList ∧ w' = w.alloc (.cells (X.map Value.string).toArray 9) := by
  have hcl : Lib.countB s ⟨#[10]⟩ ≤ s.size := Lib.countB_le ⟨#[10]⟩ (Nat.le_refl 1) s.size s (Nat.le_refl _)
  have hlen := Lib.splitB_all ⟨#[10]⟩ (Nat.le_refl 1) 1 _ s rfl
  have HG := hid (Tryz.strings_genSplit s ⟨#[10]⟩ 1 (-1) (Lib.countB s ⟨#[10]⟩ + 1) m w hs hm (Nat.le_refl 1) (Nat.le_refl 1) (by decide) (by decide) (by
    rw [if_pos (by decide)]
    omega))
  rw [Nat.add_sub_cancel, hlen] at HG
  have HX := hid (bl_after 10 s)
  have HCE := hid (show Lib.cellsOf (Lib.splitB ⟨#[10]⟩ 1 (Lib.countB s ⟨#[10]⟩) s) (Lib.countB s ⟨#[10]⟩ + 1) = ((Lib.splitB ⟨#[10]⟩ 1 (Lib.countB s ⟨#[10]⟩) s).map Value.string).toArray by
    unfold Lib.cellsOf; rw [hlen]; simp)
  have HLN := hid hlen
  generalize Lib.splitB ⟨#[10]⟩ 1 (Lib.countB s ⟨#[10]⟩) s = X at *
  generalize Lib.countB s ⟨#[10]⟩ + 1 = N at *
  clear hlen hcl
  go_enter Tryz.func100, Tryz.ntmps100
  go_wp2_with fail
  refine HG.out.mono ?_
  rintro e w1 ⟨rfl, hw⟩
  have HW := hid hw
  clear hw
  go_wp2_with fail
  go_ret
  exact ⟨X, by rw [HLN.out]; rfl, HX.out, by rw [HW.out, HCE.out]⟩

theorem last_st {C : List (List UInt8)} (hp : 0 < C.length) (h : fstE (lnE C) C.length = none) : stF C C.length = stF C (C.length - 1) := by
  obtain ⟨n, hn⟩ : ∃ n, C.length = n + 1 := ⟨C.length - 1, by omega⟩
  have h0 := fstE_of_none h n (by omega)
  unfold lnE at h0
  rw [if_neg (by omega)] at h0
  by_cases h1 : n ≠ 0 ∧ C.getD n [] = []
  · rw [hn, Nat.add_sub_cancel, stF, h1.2]
    have : stepF n (cutAt 32 []) (stF C n) = none := by unfold stepF; rw [if_neg h1.1]; rfl
    rw [this]; rfl
  · rw [if_neg h1] at h0; cases h0
theorem ends_at {X : List ByteArray} {C : List (List UInt8)} (h : bl X = addEnds 10 C) {i : Nat} (hi : i < X.length) : i < C.length ∧ X[i].data.toList = if i + 1 < C.length then C.getD i [] ++ [10] else C.getD i [] := by
  have hl : X.length = C.length := by rw [← bl_len, h, ends_len]
  have hc : i < C.length := by omega
  refine ⟨hc, ?_⟩
  have h1 := ends_get 10 C i hc
  rw [← h] at h1
  have h2 : (bl X)[i]? = some X[i].data.toList := by unfold bl; simp [List.getElem?_eq_getElem hi]
  rw [h2] at h1
  have hd : C.getD i [] = C[i] := by simp [List.getD, List.getElem?_eq_getElem hc]
  rw [hd]
  exact Option.some.inj h1
/-- The file that is being read, behind k lines. -/
def Ik (kp : Nat × Array Value) (w0 : World) (fb : Nat) (C : List (List UInt8)) (k : Nat) (W : World) : Prop := ∃ v u, Rd kp w0 W fb (stF C k) v u
def Jk (kp : Nat × Array Value) (w0 : World) (fb : Nat) (W : World) : Prop := ∃ f v u, Rd kp w0 W fb f v u
theorem lnE_some {C : List (List UInt8)} {i : Nat} {f : Fs} (h : i + 1 < C.length) (hs : stepF i (cutAt 32 (C.getD i [])) (stF C i) = some f) : lnE C i = 0 ∧ stF C (i + 1) = f := by
  unfold lnE
  rw [if_pos h, hs, stF, hs]
  exact ⟨rfl, rfl⟩
theorem lnE_none {C : List (List UInt8)} {i : Nat} (h : i + 1 < C.length) (hs : stepF i (cutAt 32 (C.getD i [])) (stF C i) = none) : lnE C i = 1 := by
  unfold lnE
  rw [if_pos h, hs]; rfl
theorem lineK_any (X : List ByteArray) (C : List (List UInt8)) (A : Nat → Addr) (m : Int) (kp : Nat × Array Value) (w0 : World) (fb : Nat) (hX : bl X = addEnds 10 C) (hz : ∀ x, x ∈ X → x.size < 4294967281) (hC : ∀ p, p ∈ C → (10 : UInt8) ∉ p) (hn : C.length ≤ 1000000) (S : Te w0 A m) (i : Nat) (hi : i < X.length) (W : World) (h : Ik kp w0 fb C i W) :
    Calls Tryz.prog 101 (#[.int .i64 (i : Int), .string X[i]] ++ #[.pointer (some ⟨fb, 0, none⟩)]) W fun e w' => e = .returned (errA A (lnE C i)) ∧ (lnE C i = 0 → Ik kp w0 fb C (i + 1) w') ∧ Jk kp w0 fb w' := by
  obtain ⟨v, u, hr⟩ := h
  obtain ⟨hc, he⟩ := ends_at hX hi
  have hzi := hz X[i] (List.getElem_mem hi)
  have hS := S.below hr.bl
  by_cases hl : i + 1 < C.length
  · rw [if_pos hl] at he
    refine (lineK_end X[i] (C.getD i []) i (stF C i) v u A m kp w0 W fb hzi hS hr he (by have := st_many C i; omega)).mono fun e w' hp => ?_
    cases hs : stepF i (cutAt 32 (C.getD i [])) (stF C i) with
    | none =>
      rw [hs] at hp
      obtain ⟨h1, v', u', h2⟩ := hp
      rw [lnE_none hl hs]
      exact ⟨h1, (fun h => by cases h), _, _, _, h2⟩
    | some f =>
      rw [hs] at hp
      obtain ⟨h1, v', u', h2⟩ := hp
      obtain ⟨e1, e2⟩ := lnE_some hl hs
      rw [e1]
      exact ⟨h1, fun _ => ⟨v', u', by rw [e2]; exact h2⟩, _, _, _, h2⟩
  · rw [if_neg hl] at he
    have hd : C.getD i [] = C[i] := by simp [List.getD, List.getElem?_eq_getElem hc]
    have h10 : (10 : UInt8) ∉ X[i].data.toList := by rw [he, hd]; exact hC _ (List.getElem_mem hc)
    by_cases h0 : i ≠ 0 ∧ C.getD i [] = []
    · have e1 : lnE C i = 0 := by unfold lnE; rw [if_neg hl, if_pos h0]
      have e2 : stF C (i + 1) = stF C i := by
        rw [stF, h0.2]
        have : stepF i (cutAt 32 []) (stF C i) = none := by unfold stepF; rw [if_neg h0.1]; rfl
        rw [this]; rfl
      have e3 : X[i] = ⟨#[]⟩ := by
        have := bt_of' (he.trans h0.2)
        exact this
      rw [e1, e3]
      exact (lineK_nil i W fb (by omega)).mono fun e w' ⟨h1, h2⟩ => by subst h2; exact ⟨h1, fun _ => ⟨v, u, by rw [e2]; exact hr⟩, _, _, _, hr⟩
    · have e1 : lnE C i = 1 := by unfold lnE; rw [if_neg hl, if_neg h0]
      rw [e1]
      refine (lineK_open X[i] i A m W fb hzi hS h10 ?_).mono fun e w' ⟨h1, h2⟩ => by subst h2; exact ⟨h1, (fun h => by cases h), _, _, _, hr⟩
      by_cases hz0 : i = 0
      · exact Or.inl hz0
      · refine Or.inr (fun e => h0 ⟨hz0, ?_⟩)
        rw [← he, e]

/-- What readLines answers. -/
def LinesP (s : List UInt8) (A : Nat → Addr) (w w' : World) (e : Ending) : Prop :=
  ∃ (P : ByteArray) (v u x : Value), e = .returned (.tuple #[.agg #[.string P, v, u], x]) ∧ Below w.heap.size w w' ∧ (∃ a n c, v = .slice a n c) ∧ (∃ a n c, u = .slice a n c) ∧
    match readL s with
    | .error i => ErrAt w' A x 1 (some i)
    | .ok f => x = .nilIface ∧ P = f.1 ∧ w'.ownsRow w.heap.size 26 2 v f.2.1.length (flatM f.2.1) ∧ w'.ownsRow w.heap.size 26 2 u f.2.2.length (flatM f.2.2) ∧ ∀ g, v.ownBlock = some g → u.ownBlock ≠ some g
theorem lnE_two (C : List (List UInt8)) (i : Nat) : lnE C i = 0 ∨ lnE C i = 1 := by
  unfold lnE
  split
  · split
    · exact Or.inr rfl
    · exact Or.inl rfl
  · split
    · exact Or.inl rfl
    · exact Or.inr rfl
theorem heap_new (w : World) (o : Obj) : (w.alloc o).heap[w.heap.size]? = some o := heap_alloc_new w o
theorem heap_old (w : World) (o : Obj) {b : Nat} {x : Obj} (h : w.heap[b]? = some x) : (w.alloc o).heap[b]? = some x := by
  rw [((Below.refl w.heap.size w).alloc (Nat.le_refl _) o).block b (lt_of_blk h)]; exact h
/-- The file, before any line is read. -/
theorem rd_start (w : World) (X : List ByteArray) : Rd (w.heap.size + 1, (X.map Value.string).toArray) w
    ((w.alloc (.cells #[.string ⟨#[]⟩, .slice none 0 0, .slice none 0 0] 24)).alloc (.cells (X.map Value.string).toArray 9))
    w.heap.size noFile (.slice none 0 0) (.slice none 0 0) := by
  refine ⟨?_, ?_, by omega, ?_, World.ownsRow_nil _ _ _ _, World.ownsRow_nil _ _ _ _, fun g h => by simp [Value.ownBlock] at h⟩
  · have := heap_new (w.alloc (.cells #[.string ⟨#[]⟩, .slice none 0 0, .slice none 0 0] 24)) (.cells (X.map Value.string).toArray 9)
    simpa using this
  · exact ((Below.refl w.heap.size w).alloc (Nat.le_refl _) _).alloc (by simp) _
  · exact heap_old _ _ (heap_new w _)
theorem own_base {W : World} {B B' n : Nat} {e : TypeId} {v : Value} {xs : List Value} (h : W.ownsRow B e 2 v n xs) (hB : B' ≤ B) : W.ownsRow B' e 2 v n xs := by
  obtain ⟨hl, h | ⟨g, cap, cur, e1, e2, e3, e4, e5, e6, e7⟩⟩ := h
  · exact ⟨hl, Or.inl h⟩
  · exact ⟨hl, Or.inr ⟨g, cap, cur, e1, Nat.le_trans hB e2, e3, e4, e5, e6, e7⟩⟩
/-- A file's three cells, stored. -/
def put3 (W : World) (b : Nat) (x y z : Value) : World := ((W.setCell ⟨b, 0, none⟩ x).setCell ⟨b, 1, none⟩ y).setCell ⟨b, 2, none⟩ z
theorem put3_below {W w : World} {B b : Nat} {x y z : Value} (h : Below B w W) (hb : B ≤ b) : Below B w (put3 W b x y z) :=
  ((h.setCell (p := ⟨b, 0, none⟩) hb _).setCell (p := ⟨b, 1, none⟩) hb _).setCell (p := ⟨b, 2, none⟩) hb _
theorem put3_cell {W : World} {b b' o : Nat} {x y z : Value} (h : b' ≠ b) : (put3 W b x y z).cell? ⟨b', o, none⟩ = W.cell? ⟨b', o, none⟩ := by
  unfold put3
  have go : ∀ (V : World) (k : Nat) (q : Value), (V.setCell ⟨b, k, none⟩ q).cell? ⟨b', o, none⟩ = V.cell? ⟨b', o, none⟩ := fun V k q => World.cell?_of_block (Below.heap_setCell _ _ _ _ h)
  rw [go, go, go]
theorem put3_owns {W : World} {B b n : Nat} {e : TypeId} {v x y z : Value} {xs : List Value} (h : W.ownsRow B e 2 v n xs) (hne : v.ownBlock ≠ some b) : (put3 W b x y z).ownsRow B e 2 v n xs :=
  owns_set (owns_set (owns_set h hne) hne) hne
theorem put3_err {W : World} {A : Nat → Addr} {b c : Nat} {o : Option Nat} {v x y z : Value} {s : ByteArray} (h : ErrAt W A v c o) (hs : W.cell? ⟨b, 0, none⟩ = some (.string s)) : ErrAt (put3 W b x y z) A v c o := by
  cases o with
  | none => exact h
  | some i =>
    obtain ⟨h0, k, h1, h2, h3⟩ := h
    have hne : k ≠ b := fun e => by rw [e, hs] at h2; cases h2
    exact ⟨h0, k, h1, by rw [put3_cell hne]; exact h2, by rw [put3_cell hne]; exact h3⟩
theorem res3f {w w3 : World} {a b c : Value} {T : TypeId} (hb : Below (w.heap.size + 1) (w.alloc (.cells #[a, b, c] T)) w3) : ∀ o, w3.frozen? ⟨w.heap.size, o, none⟩ = false := by
  intro o; rw [hb.frozen (by simp)]; simp
theorem res3b {w w3 : World} {a b c : Value} {T : TypeId} (hb : Below (w.heap.size + 1) (w.alloc (.cells #[a, b, c] T)) w3) : w3.heap[w.heap.size]? = some (.cells #[a, b, c] T (0, 0)) := by
  rw [hb.block _ (by simp)]; exact heap_new w _
theorem own_sl {W : World} {B n : Nat} {e : TypeId} {v : Value} {xs : List Value} (h : W.ownsRow B e 2 v n xs) : ∃ a n c, v = .slice a n c := by
  obtain ⟨_, ⟨h, _⟩ | ⟨g, cap, cur, e1, _⟩⟩ := h
  · exact ⟨_, _, _, h⟩
  · exact ⟨_, _, _, e1⟩
set_option maxHeartbeats 2000000 in
theorem lines_any (s : ByteArray) (A : Nat → Addr) (m : Int) (w : World) (hs : s.size < 999999) (S : Te w A m) :
    Calls Tryz.prog 55 #[.string s] w fun e w' => LinesP s.data.toList A w w' e := by
  have HBa := hid ((Below.refl w.heap.size w).alloc (Nat.le_refl _) (.cells #[.string ⟨#[]⟩, .slice none 0 0, .slice none 0 0] 24))
  have HBb := hid (HBa.out.alloc (by simp) (.cells #[.string ⟨#[]⟩, .slice none 0 0, .slice none 0 0] 24))
  have HSA := hid (splitAfter_any s m _ (by omega) (S.below HBb.out).ml)
  have HST := hid (S.below HBa.out)
  clear S
  go_enter Tryz.func55, Tryz.ntmps55
  go_wp2_with fail
  refine HSA.out.mono ?_
  rintro e w3 ⟨X, rfl, hX, rfl⟩
  have hXC : bl X = addEnds 10 (cutAt 10 s.data.toList) := by rw [hX, after_ends]
  have HCL := hid (show X.length = (cutAt 10 s.data.toList).length by rw [← bl_len, hXC, ends_len])
  have HCN := hid (show (cutAt 10 s.data.toList).length ≤ 1000000 by have := cutAt_many 10 s.data.toList; simp at this; omega)
  have HPS := hid (show 0 < (cutAt 10 s.data.toList).length from List.length_pos_iff.2 (cutAt_ne 10 _))
  have HXC := hid hXC
  have HRL := hid (readL_is s.data.toList)
  have HCC := hid (cut_no 10 s.data.toList)
  have HZ := hid (show ∀ x, x ∈ X → x.size < 4294967281 from fun x hx => by
    obtain ⟨i, hi, rfl⟩ := List.getElem_of_mem hx
    obtain ⟨hc, he⟩ := ends_at hXC hi
    have hd : (cutAt 10 s.data.toList).getD i [] = (cutAt 10 s.data.toList)[i] := by simp [List.getD, List.getElem?_eq_getElem hc]
    have h1 := cutAt_le 10 s.data.toList _ (List.getElem_mem hc)
    rw [hd] at he
    rw [← len_eq, he]
    simp at h1
    split <;> simp <;> omega)
  clear hX hXC
  generalize cutAt 10 s.data.toList = C at *
  have eg : ∀ args w, (callFunc 101 args).run Tryz.prog w = .ok (.enter 101 args) w := enters_of Tryz.func101 (by kernel_rfl) rfl
  have HRS := hid (rd_start (w.alloc (.cells #[.string ⟨#[]⟩, .slice none 0 0, .slice none 0 0] 24)) X)
  rw [show (w.alloc (.cells #[.string ⟨#[]⟩, .slice none 0 0, .slice none 0 0] 24)).heap.size = w.heap.size + 1 by simp] at HRS
  have HF := hid (first_strs 101 #[.pointer (some ⟨w.heap.size + 1, 0, none⟩)] (lnE C) X (w.heap.size + 1 + 1) X.length (Ik (w.heap.size + 1 + 1, (X.map Value.string).toArray) (w.alloc (.cells #[.string ⟨#[]⟩, .slice none 0 0, .slice none 0 0] 24)) (w.heap.size + 1) C) (Jk (w.heap.size + 1 + 1, (X.map Value.string).toArray) (w.alloc (.cells #[.string ⟨#[]⟩, .slice none 0 0, .slice none 0 0] 24)) (w.heap.size + 1)) A _ eg (by rw [HCL.out]; exact HCN.out)
    (fun k W ⟨v, u, h⟩ j hj => by rw [Lib.cell_of_heap h.kb]; simp [hj])
    (fun k W ⟨v, u, h⟩ => ⟨_, v, u, h⟩)
    (fun W o ⟨f, v, u, h⟩ => ⟨f, v, u, h.below ((Below.refl _ _).alloc (Nat.le_refl _) o)⟩)
    ⟨_, _, HRS.out⟩
    (fun i hi W hI => lineK_any X C A m _ _ (w.heap.size + 1) HXC.out HZ.out HCC.out HCN.out HST.out i hi W hI))
  clear eg
  go_wp2_with fail
  refine HF.out.mono ?_
  rintro e w4 ⟨x, rfl, hx, hI, hJ⟩
  rw [HCL.out] at hx hI
  cases hfe : fstE (lnE C) C.length with
  | some i =>
    obtain ⟨f, v, u, hr⟩ := hJ
    obtain ⟨va, vn, vc, rfl⟩ := own_sl hr.ov
    obtain ⟨ua, un, uc, rfl⟩ := own_sl hr.ou
    have HB1 := hid (show Below (w.heap.size + 1) (w.alloc (.cells #[.string ⟨#[]⟩, .slice none 0 0, .slice none 0 0] 24)) w4 from by have := hr.bl; simpa using this)
    obtain ⟨⟨r0, r1, r2⟩, rz⟩ := res3 HB1.out
    have rf := res3f HB1.out
    have c0 := hr.c0
    have c1 := hr.c1
    have c2 := hr.c2
    have HX := hid hx
    rw [codeE_some hfe, hfe] at HX
    have HFE := hid hfe
    clear hx hI hr hfe
    go_wp2_with fail
    refine bodyPost_ret (v := .tuple #[.agg #[.string f.1, .slice va vn vc, .slice ua un uc], x]) (by simp [results, Tryz.results55, go_sem, r0, r1, r2]) rfl ?_
    refine ⟨_, _, _, _, rfl, put3_below (HBa.out.trans (HB1.out.mono (by omega))) (Nat.le_refl _), ⟨_, _, _, rfl⟩, ⟨_, _, _, rfl⟩, ?_⟩
    rw [HRL.out, HFE.out]
    have h1 : lnE C i = 1 := (lnE_two C i).resolve_left (fstE_of_some HFE.out).2.1
    have h2 := HX.out
    rw [h1] at h2
    exact put3_err h2 r0
  | none =>
    obtain ⟨v, u, hr⟩ := hI hfe
    rw [last_st HPS.out hfe] at hr
    obtain ⟨va, vn, vc, rfl⟩ := own_sl hr.ov
    obtain ⟨ua, un, uc, rfl⟩ := own_sl hr.ou
    have HB1 := hid (show Below (w.heap.size + 1) (w.alloc (.cells #[.string ⟨#[]⟩, .slice none 0 0, .slice none 0 0] 24)) w4 from by have := hr.bl; simpa using this)
    obtain ⟨⟨r0, r1, r2⟩, rz⟩ := res3 HB1.out
    have rf := res3f HB1.out
    have HRB := hid (res3b HB1.out)
    have c0 := hr.c0
    have c1 := hr.c1
    have c2 := hr.c2
    rw [codeE_none hfe, hfe] at hx
    have hx : x = .nilIface := hx
    subst hx
    have HFE := hid hfe
    have HR := hid hr
    clear hI hJ hr hfe
    go_wp2_with fail
    refine bodyPost_ret (v := .tuple #[.agg #[.string (stF C (C.length - 1)).1, .slice va vn vc, .slice ua un uc], .nilIface]) (by simp [results, Tryz.results55, go_sem, r0, r1, r2]) rfl ?_
    refine ⟨_, _, _, _, rfl, put3_below (HBa.out.trans (HB1.out.mono (by omega))) (Nat.le_refl _), ⟨_, _, _, rfl⟩, ⟨_, _, _, rfl⟩, ?_⟩
    rw [HRL.out, HFE.out]
    refine ⟨rfl, rfl, put3_owns (own_base HR.out.ov (by simp)) (own_ne2 HR.out.ov HRB.out (by decide)), put3_owns (own_base HR.out.ou (by simp)) (own_ne2 HR.out.ou HRB.out (by decide)), HR.out.ap⟩
end Ve
end Go.Proofs.YtmgpbejekglipabGreatDoor

/-
  What copyCheck and WriteString of strings.Builder do at this program: the builder is the call's own.
-/
namespace Go.Proofs.YtmgpbejekglipabGreatDoor
open Go.RowKit
namespace Ve

theorem bSize : (Tryz.prog.info? 87).map (·.size) = some 2 := by kernel_rfl
theorem bLies : liesAt Tryz.prog Tryz.prog.depth 87 (2 / Tryz.prog.cellsOf 87) 0 87 1 = true := by kernel_rfl
theorem bByte : (Tryz.prog.info? 5).map (fun i => (i.zero, i.size, i.bytes)) = some (some (.int .u8 0), 1, 1) := by kernel_rfl

set_option maxHeartbeats 1000000 in
set_option maxRecDepth 100000 in
theorem copy_used (b : Nat) (w : World) (h0 : w.cell? ⟨b, 0, none⟩ = some (.pointer (some ⟨b, 0, none⟩))) :
    Calls Tryz.prog 98 #[.pointer (some ⟨b, 0, none⟩)] w fun e w' => e = .returned (.tuple #[]) ∧ w' = w := by
  obtain ⟨j, hj, _⟩ := Option.map_eq_some_iff.1 bSize
  go_enter Tryz.func98, Tryz.ntmps98
  go_wp2
  rw [Lib.run_neq_ptr_same w _ Tryz.underlying84 hj]
  go_wp2
  go_end0
  exact ⟨rfl, rfl⟩
set_option maxHeartbeats 1000000 in
set_option maxRecDepth 100000 in
theorem copy_fresh (b : Nat) (w : World) (h0 : w.cell? ⟨b, 0, none⟩ = some (.pointer none)) (hsh : w.shape? b = some (87, 2)) (hfz : w.frozen? ⟨b, 0, none⟩ = false) :
    Calls Tryz.prog 98 #[.pointer (some ⟨b, 0, none⟩)] w fun e w' => e = .returned (.tuple #[]) ∧ w' = w.setCell ⟨b, 0, none⟩ (.pointer (some ⟨b, 0, none⟩)) := by
  obtain ⟨j, hj, hjs⟩ := Option.map_eq_some_iff.1 bSize
  have hnp := fun W => Lib.run_neq_ptr_same (P := Tryz.prog) W ⟨b, 0, none⟩ Tryz.underlying84 hj
  go_enter Tryz.func98, Tryz.ntmps98
  go_wp2
  rw [Lib.run_to_unsafe w ⟨b, 0, none⟩ Tryz.underlying84 Tryz.underlying163 hj (by rw [hjs]; decide) hsh (Nat.zero_lt_succ 1)]
  simp only [Result.andThen]
  rw [Oper.upon_value]
  go_wp2
  rw [run_callFunc_extern Tryz.func155 (by kernel_rfl) (by kernel_rfl) (by kernel_rfl) (e := Extern.AbiNoEscape.same) (by kernel_rfl)]
  rw [Lib.run_noEscape]
  simp only [Result.andThen]
  rw [Oper.upon_value]
  go_wp2
  rw [Lib.run_from_unsafe w ⟨b, 0, none⟩ Tryz.underlying163 Tryz.underlying84 hj hsh bLies]
  simp only [Result.andThen]
  rw [Oper.upon_value]
  go_wp2
  go_end0
  exact ⟨rfl, rfl⟩
theorem copy_any (B b : Nat) (bs : List Value) (w : World) (h : Lib.IsBuilder 87 5 B b bs w) :
    Calls Tryz.prog 98 #[.pointer (some ⟨b, 0, none⟩)] w fun e w' => e = .returned (.tuple #[]) ∧ (Lib.BuilderAt 87 5 B b (.pointer (some ⟨b, 0, none⟩)) bs w' ∧ Below B w w') := by
  rcases h with h | h
  · refine (copy_fresh b w h.cell0 h.shape h.frozen0).mono ?_
    rintro e w' ⟨rfl, rfl⟩
    exact ⟨rfl, h.used _, (Below.refl B w).setCell (p := ⟨b, 0, none⟩) h.1 _⟩
  · refine (copy_used b w h.cell0).mono ?_
    rintro e w' ⟨rfl, rfl⟩
    exact ⟨rfl, h, Below.refl B _⟩
set_option maxHeartbeats 2000000 in
set_option maxRecDepth 100000 in
theorem write_any (B b : Nat) (bs : List Value) (s : ByteArray) (w : World) (h : Lib.IsBuilder 87 5 B b bs w) (hlen : bs.length + s.size ≤ 140737488355328) (hBw : B ≤ w.heap.size) :
    Calls Tryz.prog 52 #[.pointer (some ⟨b, 0, none⟩), .string s] w fun e w' => e = .returned (.tuple #[.int .i64 s.size, .nilIface]) ∧ (Lib.BuilderAt 87 5 B b (.pointer (some ⟨b, 0, none⟩)) (bs ++ Lib.strCells s) w' ∧ Below B w w') := by
  obtain ⟨i0, hi, hz0, hz1, hz2⟩ := info_parts bByte
  go_enter Tryz.func52, Tryz.ntmps52
  go_wp2_with (go_at_call 98; refine (copy_any B b bs _ h).mono ?_)
  rintro e w1 ⟨rfl, h1, hb1⟩
  obtain ⟨hB, v, hbk, hown, hne⟩ := h1
  have c0 : w1.cell? ⟨b, 0, none⟩ = some (.pointer (some ⟨b, 0, none⟩)) := by rw [Lib.cell_of_heap hbk]; rfl
  have c1 : w1.cell? ⟨b, 1, none⟩ = some v := by rw [Lib.cell_of_heap hbk]; rfl
  go_wp2_with (at_builtin; refine Lib.wpList_append_own_string _ rfl _ _ 85 9 rfl B 5 i0 Tryz.underlying85 Tryz.underlying9 hi hz0 hz1 hz2 _ _ _ rfl hown s rfl ?c3 ?c4 ?c5 ?_)
  case c3 => unfold maxLen; omega
  case c4 => omega
  case c5 => have := hb1.size; omega
  intro v' w2 hown' hgrow _
  have hlt : b < w1.heap.size := by
    rcases Nat.lt_or_ge b w1.heap.size with h' | h'
    · exact h'
    · simp [Array.getElem?_eq_none h'] at hbk
  have hb2 : w2.heap[b]? = some (.cells #[.pointer (some ⟨b, 0, none⟩), v] 87 (0, 0)) := by
    rw [hgrow.block b hlt (fun e => hne e.symm)]
    exact hbk
  have d0 : w2.cell? ⟨b, 0, none⟩ = some (.pointer (some ⟨b, 0, none⟩)) := by rw [Lib.cell_of_heap hb2]; rfl
  have d1 : w2.cell? ⟨b, 1, none⟩ = some v := by rw [Lib.cell_of_heap hb2]; rfl
  have f1 : w2.frozen? ⟨b, 1, none⟩ = false := Lib.frozen_of_heap hb2 1
  obtain ⟨ao, n', cap, rfl⟩ : ∃ ao n' cap, v' = .slice ao n' cap := by
    rcases hown'.2 with ⟨hv, _⟩ | ⟨g, cap, cur, hv, _⟩
    · exact ⟨_, _, _, hv⟩
    · exact ⟨_, _, _, hv⟩
  go_wp2
  go_ret2
  refine ⟨rfl, ?_, ?_⟩
  · exact Lib.BuilderAt.put (T := 87) (e := 5) hB hb2 (bs' := bs ++ Lib.strCells s) (by simpa [Lib.strCells_length] using hown') (by decide)
  · exact (hb1.grown hgrow (by have := hb1.size; omega) (fun k hk => (hown.lt k hk).1)).setCell (p := ⟨b, 1, none⟩) hB _
end Ve
end Go.Proofs.YtmgpbejekglipabGreatDoor
