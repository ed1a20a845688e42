/-
  FileJ
-/
import Derived.Test.YtiebgeamfblbdaaGreatDoorFb32
namespace Go.Proofs.YtiebgeamfblbdaaGreatDoor
open Go.RowKit
namespace Ve
set_option maxHeartbeats 1000000 in
theorem splitAfter_any (s : ByteArray) (m : Int) (w : World) (hs : s.size < 4294967281) (hm : w.cell? ⟨9, 0, none⟩ = some (.int .i64 m)) :
    Calls Tryz.prog 39 #[.string s, .string ⟨#[10]⟩] w fun e w' => ∃ X : List ByteArray, e = .returned (.slice (some ⟨w.heap.size, 0, none⟩) X.length X.length) ∧ bl X = cutAfter 10 s.data.toList ∧ w' = w.alloc (.cells (X.map Value.string).toArray 9) := by
  have hcl : Lib.countB s ⟨#[10]⟩ ≤ s.size := Lib.countB_le ⟨#[10]⟩ (Nat.le_refl 1) s.size s (Nat.le_refl _)
  have hlen := Lib.splitB_all ⟨#[10]⟩ (Nat.le_refl 1) 1 _ s rfl
  have HG := hid (Tryz.strings_genSplit s ⟨#[10]⟩ 1 (-1) (Lib.countB s ⟨#[10]⟩ + 1) m w hs hm (Nat.le_refl 1) (Nat.le_refl 1) (by decide) (by decide) (by
    rw [if_pos (by decide)]
    omega))
  rw [Nat.add_sub_cancel, hlen] at HG
  have HX := hid (bl_after 10 s)
  have HCE := hid (show Lib.cellsOf (Lib.splitB ⟨#[10]⟩ 1 (Lib.countB s ⟨#[10]⟩) s) (Lib.countB s ⟨#[10]⟩ + 1) = ((Lib.splitB ⟨#[10]⟩ 1 (Lib.countB s ⟨#[10]⟩) s).map Value.string).toArray by
    unfold Lib.cellsOf; rw [hlen]; simp)
  have HLN := hid hlen
  generalize Lib.splitB ⟨#[10]⟩ 1 (Lib.countB s ⟨#[10]⟩) s = X at *
  generalize Lib.countB s ⟨#[10]⟩ + 1 = N at *
  clear hlen hcl
  go_enter Tryz.func39, Tryz.ntmps39
  go_wp2_with fail
  refine HG.out.mono ?_
  rintro e w1 ⟨rfl, hw⟩
  have HW := hid hw
  clear hw
  go_wp2_with fail
  go_ret
  exact ⟨X, by rw [HLN.out]; rfl, HX.out, by rw [HW.out, HCE.out]⟩
theorem last_st {C : List (List UInt8)} (hp : 0 < C.length) (h : fstE (lnE C) C.length = none) : stF C C.length = stF C (C.length - 1) := by
  obtain ⟨n, hn⟩ : ∃ n, C.length = n + 1 := ⟨C.length - 1, by omega⟩
  have h0 := fstE_of_none h n (by omega)
  unfold lnE at h0
  rw [if_neg (by omega)] at h0
  by_cases h1 : n ≠ 0 ∧ C.getD n [] = []
  · rw [hn, Nat.add_sub_cancel, stF, h1.2]
    have : stepF n (cutAt 32 []) (stF C n) = none := by unfold stepF; rw [if_neg h1.1]; rfl
    rw [this]; rfl
  · rw [if_neg h1] at h0; cases h0
theorem ends_at {X : List ByteArray} {C : List (List UInt8)} (h : bl X = addEnds 10 C) {i : Nat} (hi : i < X.length) : i < C.length ∧ X[i].data.toList = if i + 1 < C.length then C.getD i [] ++ [10] else C.getD i [] := by
  have hl : X.length = C.length := by rw [← bl_len, h, ends_len]
  have hc : i < C.length := by omega
  refine ⟨hc, ?_⟩
  have h1 := ends_get 10 C i hc
  rw [← h] at h1
  have h2 : (bl X)[i]? = some X[i].data.toList := by unfold bl; simp [List.getElem?_eq_getElem hi]
  rw [h2] at h1
  have hd : C.getD i [] = C[i] := by simp [List.getD, List.getElem?_eq_getElem hc]
  rw [hd]
  exact Option.some.inj h1
def Ik (kp : Nat × Array Value) (w0 : World) (fb : Nat) (C : List (List UInt8)) (k : Nat) (W : World) : Prop := ∃ v u, Rd kp w0 W fb (stF C k) v u
def Jk (kp : Nat × Array Value) (w0 : World) (fb : Nat) (W : World) : Prop := ∃ f v u, Rd kp w0 W fb f v u
theorem lnE_some {C : List (List UInt8)} {i : Nat} {f : Fs} (h : i + 1 < C.length) (hs : stepF i (cutAt 32 (C.getD i [])) (stF C i) = some f) : lnE C i = 0 ∧ stF C (i + 1) = f := by
  unfold lnE
  rw [if_pos h, hs, stF, hs]
  exact ⟨rfl, rfl⟩
theorem lnE_none {C : List (List UInt8)} {i : Nat} (h : i + 1 < C.length) (hs : stepF i (cutAt 32 (C.getD i [])) (stF C i) = none) : lnE C i = 1 := by
  unfold lnE
  rw [if_pos h, hs]; rfl
theorem lineK_any (X : List ByteArray) (C : List (List UInt8)) (A : Nat → Addr) (m : Int) (kp : Nat × Array Value) (w0 : World) (fb : Nat) (hX : bl X = addEnds 10 C) (hz : ∀ x, x ∈ X → x.size < 4294967281) (hC : ∀ p, p ∈ C → (10 : UInt8) ∉ p) (hn : C.length ≤ 1000000) (S : Te w0 A m) (i : Nat) (hi : i < X.length) (W : World) (h : Ik kp w0 fb C i W) :
    Calls Tryz.prog 40 (#[.int .i64 (i : Int), .string X[i]] ++ #[.pointer (some ⟨fb, 0, none⟩)]) W fun e w' => e = .returned (errA A (lnE C i)) ∧ (lnE C i = 0 → Ik kp w0 fb C (i + 1) w') ∧ Jk kp w0 fb w' := by
  obtain ⟨v, u, hr⟩ := h
  obtain ⟨hc, he⟩ := ends_at hX hi
  have hzi := hz X[i] (List.getElem_mem hi)
  have hS := S.below hr.bl
  by_cases hl : i + 1 < C.length
  · rw [if_pos hl] at he
    refine (lineK_end X[i] (C.getD i []) i (stF C i) v u A m kp w0 W fb hzi hS hr he (by have := st_many C i; omega)).mono fun e w' hp => ?_
    cases hs : stepF i (cutAt 32 (C.getD i [])) (stF C i) with
    | none =>
      rw [hs] at hp
      obtain ⟨h1, v', u', h2⟩ := hp
      rw [lnE_none hl hs]
      exact ⟨h1, (fun h => by cases h), _, _, _, h2⟩
    | some f =>
      rw [hs] at hp
      obtain ⟨h1, v', u', h2⟩ := hp
      obtain ⟨e1, e2⟩ := lnE_some hl hs
      rw [e1]
      exact ⟨h1, fun _ => ⟨v', u', by rw [e2]; exact h2⟩, _, _, _, h2⟩
  · rw [if_neg hl] at he
    have hd : C.getD i [] = C[i] := by simp [List.getD, List.getElem?_eq_getElem hc]
    have h10 : (10 : UInt8) ∉ X[i].data.toList := by rw [he, hd]; exact hC _ (List.getElem_mem hc)
    by_cases h0 : i ≠ 0 ∧ C.getD i [] = []
    · have e1 : lnE C i = 0 := by unfold lnE; rw [if_neg hl, if_pos h0]
      have e2 : stF C (i + 1) = stF C i := by
        rw [stF, h0.2]
        have : stepF i (cutAt 32 []) (stF C i) = none := by unfold stepF; rw [if_neg h0.1]; rfl
        rw [this]; rfl
      have e3 : X[i] = ⟨#[]⟩ := by
        have := bt_of' (he.trans h0.2)
        exact this
      rw [e1, e3]
      exact (lineK_nil i W fb (by omega)).mono fun e w' ⟨h1, h2⟩ => by subst h2; exact ⟨h1, fun _ => ⟨v, u, by rw [e2]; exact hr⟩, _, _, _, hr⟩
    · have e1 : lnE C i = 1 := by unfold lnE; rw [if_neg hl, if_neg h0]
      rw [e1]
      refine (lineK_open X[i] i A m W fb hzi hS h10 ?_).mono fun e w' ⟨h1, h2⟩ => by subst h2; exact ⟨h1, (fun h => by cases h), _, _, _, hr⟩
      by_cases hz0 : i = 0
      · exact Or.inl hz0
      · refine Or.inr (fun e => h0 ⟨hz0, ?_⟩)
        rw [← he, e]
def LinesP (s : List UInt8) (A : Nat → Addr) (w w' : World) (e : Ending) : Prop :=
  ∃ (P : ByteArray) (v u x : Value), e = .returned (.tuple #[.agg #[.string P, v, u], x]) ∧ Below w.heap.size w w' ∧ (∃ a n c, v = .slice a n c) ∧ (∃ a n c, u = .slice a n c) ∧
    match readL s with
    | .error i => ErrAt w' A x 1 (some i)
    | .ok f => x = .nilIface ∧ P = f.1 ∧ w'.ownsRow w.heap.size 26 2 v f.2.1.length (flatM f.2.1) ∧ w'.ownsRow w.heap.size 26 2 u f.2.2.length (flatM f.2.2) ∧ ∀ g, v.ownBlock = some g → u.ownBlock ≠ some g
theorem lnE_two (C : List (List UInt8)) (i : Nat) : lnE C i = 0 ∨ lnE C i = 1 := by
  unfold lnE
  split
  · split
    · exact Or.inr rfl
    · exact Or.inl rfl
  · split
    · exact Or.inl rfl
    · exact Or.inr rfl
theorem rd_start (w : World) (X : List ByteArray) : Rd (w.heap.size + 1, (X.map Value.string).toArray) w
    ((w.alloc (.cells #[.string ⟨#[]⟩, .slice none 0 0, .slice none 0 0] 24)).alloc (.cells (X.map Value.string).toArray 9))
    w.heap.size noFile (.slice none 0 0) (.slice none 0 0) := by
  refine ⟨?_, ?_, by omega, ?_, World.ownsRow_nil _ _ _ _, World.ownsRow_nil _ _ _ _, fun g h => by simp [Value.ownBlock] at h⟩
  · have := heap_new (w.alloc (.cells #[.string ⟨#[]⟩, .slice none 0 0, .slice none 0 0] 24)) (.cells (X.map Value.string).toArray 9)
    simpa using this
  · exact ((Below.refl w.heap.size w).alloc (Nat.le_refl _) _).alloc (by simp) _
  · exact heap_old _ _ (heap_new w _)
theorem put3_err {W : World} {A : Nat → Addr} {b c : Nat} {o : Option Nat} {v x y z : Value} {s : ByteArray} (h : ErrAt W A v c o) (hs : W.cell? ⟨b, 0, none⟩ = some (.string s)) : ErrAt (put3 W b x y z) A v c o := by
  cases o with
  | none => exact h
  | some i =>
    obtain ⟨h0, k, h1, h2, h3⟩ := h
    have hne : k ≠ b := fun e => by rw [e, hs] at h2; cases h2
    exact ⟨h0, k, h1, by rw [put3_cell hne]; exact h2, by rw [put3_cell hne]; exact h3⟩
set_option maxHeartbeats 2000000 in
theorem lines_any (s : ByteArray) (A : Nat → Addr) (m : Int) (w : World) (hs : s.size < 999999) (S : Te w A m) :
    Calls Tryz.prog 22 #[.string s] w fun e w' => LinesP s.data.toList A w w' e := by
  have HBa := hid ((Below.refl w.heap.size w).alloc (Nat.le_refl _) (.cells #[.string ⟨#[]⟩, .slice none 0 0, .slice none 0 0] 24))
  have HBb := hid (HBa.out.alloc (by simp) (.cells #[.string ⟨#[]⟩, .slice none 0 0, .slice none 0 0] 24))
  have HSA := hid (splitAfter_any s m _ (by omega) (S.below HBb.out).ml)
  have HST := hid (S.below HBa.out)
  clear S
  go_enter Tryz.func22, Tryz.ntmps22
  go_wp2_with fail
  refine HSA.out.mono ?_
  rintro e w3 ⟨X, rfl, hX, rfl⟩
  have hXC : bl X = addEnds 10 (cutAt 10 s.data.toList) := by rw [hX, after_ends]
  have HCL := hid (show X.length = (cutAt 10 s.data.toList).length by rw [← bl_len, hXC, ends_len])
  have HCN := hid (show (cutAt 10 s.data.toList).length ≤ 1000000 by have := cutAt_many 10 s.data.toList; simp at this; omega)
  have HPS := hid (show 0 < (cutAt 10 s.data.toList).length from List.length_pos_iff.2 (cutAt_ne 10 _))
  have HXC := hid hXC
  have HRL := hid (readL_is s.data.toList)
  have HCC := hid (cut_no 10 s.data.toList)
  have HZ := hid (show ∀ x, x ∈ X → x.size < 4294967281 from fun x hx => by
    obtain ⟨i, hi, rfl⟩ := List.getElem_of_mem hx
    obtain ⟨hc, he⟩ := ends_at hXC hi
    have hd : (cutAt 10 s.data.toList).getD i [] = (cutAt 10 s.data.toList)[i] := by simp [List.getD, List.getElem?_eq_getElem hc]
    have h1 := cutAt_le 10 s.data.toList _ (List.getElem_mem hc)
    rw [hd] at he
    rw [← len_eq, he]
    simp at h1
    split <;> simp <;> omega)
  clear hX hXC
  generalize cutAt 10 s.data.toList = C at *
  have eg : ∀ args w, (callFunc 40 args).run Tryz.prog w = .ok (.enter 40 args) w := enters_of Tryz.func40 (by kernel_rfl) rfl
  have HRS := hid (rd_start (w.alloc (.cells #[.string ⟨#[]⟩, .slice none 0 0, .slice none 0 0] 24)) X)
  rw [show (w.alloc (.cells #[.string ⟨#[]⟩, .slice none 0 0, .slice none 0 0] 24)).heap.size = w.heap.size + 1 by simp] at HRS
  have HF := hid (first_strs 40 #[.pointer (some ⟨w.heap.size + 1, 0, none⟩)] (lnE C) X (w.heap.size + 1 + 1) X.length (Ik (w.heap.size + 1 + 1, (X.map Value.string).toArray) (w.alloc (.cells #[.string ⟨#[]⟩, .slice none 0 0, .slice none 0 0] 24)) (w.heap.size + 1) C) (Jk (w.heap.size + 1 + 1, (X.map Value.string).toArray) (w.alloc (.cells #[.string ⟨#[]⟩, .slice none 0 0, .slice none 0 0] 24)) (w.heap.size + 1)) A _ eg (by rw [HCL.out]; exact HCN.out)
    (fun k W ⟨v, u, h⟩ j hj => by rw [Lib.cell_of_heap h.kb]; simp [hj])
    (fun k W ⟨v, u, h⟩ => ⟨_, v, u, h⟩)
    (fun W o ⟨f, v, u, h⟩ => ⟨f, v, u, h.below ((Below.refl _ _).alloc (Nat.le_refl _) o)⟩)
    ⟨_, _, HRS.out⟩
    (fun i hi W hI => lineK_any X C A m _ _ (w.heap.size + 1) HXC.out HZ.out HCC.out HCN.out HST.out i hi W hI))
  clear eg
  go_wp2_with fail
  refine HF.out.mono ?_
  rintro e w4 ⟨x, rfl, hx, hI, hJ⟩
  rw [HCL.out] at hx hI
  cases hfe : fstE (lnE C) C.length with
  | some i =>
    obtain ⟨f, v, u, hr⟩ := hJ
    obtain ⟨va, vn, vc, rfl⟩ := own_sl hr.ov
    obtain ⟨ua, un, uc, rfl⟩ := own_sl hr.ou
    have HB1 := hid (show Below (w.heap.size + 1) (w.alloc (.cells #[.string ⟨#[]⟩, .slice none 0 0, .slice none 0 0] 24)) w4 from by have := hr.bl; simpa using this)
    obtain ⟨⟨r0, r1, r2⟩, rz⟩ := res3 HB1.out
    have rf := res3f HB1.out
    have c0 := hr.c0
    have c1 := hr.c1
    have c2 := hr.c2
    have HX := hid hx
    rw [codeE_some hfe, hfe] at HX
    have HFE := hid hfe
    clear hx hI hr hfe
    go_wp2_with fail
    refine bodyPost_ret (v := .tuple #[.agg #[.string f.1, .slice va vn vc, .slice ua un uc], x]) (by simp [results, Tryz.results22, go_sem, r0, r1, r2]) rfl ?_
    refine ⟨_, _, _, _, rfl, put3_below (HBa.out.trans (HB1.out.mono (by omega))) (Nat.le_refl _), ⟨_, _, _, rfl⟩, ⟨_, _, _, rfl⟩, ?_⟩
    rw [HRL.out, HFE.out]
    have h1 : lnE C i = 1 := (lnE_two C i).resolve_left (fstE_of_some HFE.out).2.1
    have h2 := HX.out
    rw [h1] at h2
    exact put3_err h2 r0
  | none =>
    obtain ⟨v, u, hr⟩ := hI hfe
    rw [last_st HPS.out hfe] at hr
    obtain ⟨va, vn, vc, rfl⟩ := own_sl hr.ov
    obtain ⟨ua, un, uc, rfl⟩ := own_sl hr.ou
    have HB1 := hid (show Below (w.heap.size + 1) (w.alloc (.cells #[.string ⟨#[]⟩, .slice none 0 0, .slice none 0 0] 24)) w4 from by have := hr.bl; simpa using this)
    obtain ⟨⟨r0, r1, r2⟩, rz⟩ := res3 HB1.out
    have rf := res3f HB1.out
    have HRB := hid (res3b HB1.out)
    have c0 := hr.c0
    have c1 := hr.c1
    have c2 := hr.c2
    rw [codeE_none hfe, hfe] at hx
    have hx : x = .nilIface := hx
    subst hx
    have HFE := hid hfe
    have HR := hid hr
    clear hI hJ hr hfe
    go_wp2_with fail
    refine bodyPost_ret (v := .tuple #[.agg #[.string (stF C (C.length - 1)).1, .slice va vn vc, .slice ua un uc], .nilIface]) (by simp [results, Tryz.results22, go_sem, r0, r1, r2]) rfl ?_
    refine ⟨_, _, _, _, rfl, put3_below (HBa.out.trans (HB1.out.mono (by omega))) (Nat.le_refl _), ⟨_, _, _, rfl⟩, ⟨_, _, _, rfl⟩, ?_⟩
    rw [HRL.out, HFE.out]
    refine ⟨rfl, rfl, put3_owns (own_base HR.out.ov (by simp)) (own_ne2 HR.out.ov HRB.out (by decide)), put3_owns (own_base HR.out.ou (by simp)) (own_ne2 HR.out.ou HRB.out (by decide)), HR.out.ap⟩
end Ve
end Go.Proofs.YtiebgeamfblbdaaGreatDoor
