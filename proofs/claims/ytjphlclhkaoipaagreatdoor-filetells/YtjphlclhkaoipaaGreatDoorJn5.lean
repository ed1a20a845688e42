/-
  What readLines of package file answers: the words of a file, or the first line that is wrong; nothing old in memory turns.
-/
import Derived.Test.YtjphlclhkaoipaaGreatDoorJn4
import Derived.Test.YtjphlclhkaoipaaGreatDoorJn3
import Derived.Test.YtjphlclhkaoipaaGreatDoorCode
import Derived.Deep.QuietTactic
import Derived.BigQuiet
import Derived.WalkKit
import Derived.Lib.Builder
import Derived.Lib.AppendStr
import Derived.Lib.UnsafeStr
import Derived.Laws.Externs
namespace Go.Proofs.YtjphlclhkaoipaaGreatDoor
open Go.RowKit
namespace Ve

set_option maxHeartbeats 1000000 in
theorem splitAfter_any (s : ByteArray) (m : Int) (w : World) (hs : s.size < 4294967281) (hm : w.cell? ⟨11, 0, none⟩ = some (.int .i64 m)) :
    Calls Tryz.prog 60 #[.string s, .string ⟨#[10]⟩] w fun e w' => ∃ X : List ByteArray, e = .returned (.slice (some ⟨w.heap.size, 0, none⟩) X.length X.length) ∧ bl X = cutAfter 10 s.data.toList ∧ w' = w.alloc (.cells (X.map Value.string).toArray 9) := by
  have hcl : Lib.countB s ⟨#[10]⟩ ≤ s.size := Lib.countB_le ⟨#[10]⟩ (Nat.le_refl 1) s.size s (Nat.le_refl _)
  have hlen := Lib.splitB_all ⟨#[10]⟩ (Nat.le_refl 1) 1 _ s rfl
  have HG := hid (Tryz.strings_genSplit s ⟨#[10]⟩ 1 (-1) (Lib.countB s ⟨#[10]⟩ + 1) m w hs hm (Nat.le_refl 1) (Nat.le_refl 1) (by decide) (by decide) (by
    rw [if_pos (by decide)]
    omega))
  rw [Nat.add_sub_cancel, hlen] at HG
  have HX := hid (bl_after 10 s)
  have HCE := hid (show Lib.cellsOf (Lib.splitB ⟨#[10]⟩ 1 (Lib.countB s ⟨#[10]⟩) s) (Lib.countB s ⟨#[10]⟩ + 1) = ((Lib.splitB ⟨#[10]⟩ 1 (Lib.countB s ⟨#[10]⟩) s).map Value.string).toArray by
    unfold Lib.cellsOf; rw [hlen]; simp)
  have HLN := hid hlen
  generalize Lib.splitB ⟨#[10]⟩ 1 (Lib.countB s ⟨#[10]⟩) s = X at *
  generalize Lib.countB s ⟨#[10]⟩ + 1 = N at *
  clear hlen hcl
  go_enter Tryz.func60, Tryz.ntmps60
  go_wp2_with fail
  refine HG.out.mono ?_
  rintro e w1 ⟨rfl, hw⟩
  have HW := hid hw
  clear hw
  go_wp2_with fail
  go_ret
  exact ⟨X, by rw [HLN.out]; rfl, HX.out, by rw [HW.out, HCE.out]⟩

theorem last_st {C : List (List UInt8)} (hp : 0 < C.length) (h : fstE (lnE C) C.length = none) : stF C C.length = stF C (C.length - 1) := by
  obtain ⟨n, hn⟩ : ∃ n, C.length = n + 1 := ⟨C.length - 1, by omega⟩
  have h0 := fstE_of_none h n (by omega)
  unfold lnE at h0
  rw [if_neg (by omega)] at h0
  by_cases h1 : n ≠ 0 ∧ C.getD n [] = []
  · rw [hn, Nat.add_sub_cancel, stF, h1.2]
    have : stepF n (cutAt 32 []) (stF C n) = none := by unfold stepF; rw [if_neg h1.1]; rfl
    rw [this]; rfl
  · rw [if_neg h1] at h0; cases h0
theorem ends_at {X : List ByteArray} {C : List (List UInt8)} (h : bl X = addEnds 10 C) {i : Nat} (hi : i < X.length) : i < C.length ∧ X[i].data.toList = if i + 1 < C.length then C.getD i [] ++ [10] else C.getD i [] := by
  have hl : X.length = C.length := by rw [← bl_len, h, ends_len]
  have hc : i < C.length := by omega
  refine ⟨hc, ?_⟩
  have h1 := ends_get 10 C i hc
  rw [← h] at h1
  have h2 : (bl X)[i]? = some X[i].data.toList := by unfold bl; simp [List.getElem?_eq_getElem hi]
  rw [h2] at h1
  have hd : C.getD i [] = C[i] := by simp [List.getD, List.getElem?_eq_getElem hc]
  rw [hd]
  exact Option.some.inj h1
/-- The file that is being read, behind k lines. -/
def Ik (kp : Nat × Array Value) (w0 : World) (fb : Nat) (C : List (List UInt8)) (k : Nat) (W : World) : Prop := ∃ v u, Rd kp w0 W fb (stF C k) v u
def Jk (kp : Nat × Array Value) (w0 : World) (fb : Nat) (W : World) : Prop := ∃ f v u, Rd kp w0 W fb f v u
theorem lnE_some {C : List (List UInt8)} {i : Nat} {f : Fs} (h : i + 1 < C.length) (hs : stepF i (cutAt 32 (C.getD i [])) (stF C i) = some f) : lnE C i = 0 ∧ stF C (i + 1) = f := by
  unfold lnE
  rw [if_pos h, hs, stF, hs]
  exact ⟨rfl, rfl⟩
theorem lnE_none {C : List (List UInt8)} {i : Nat} (h : i + 1 < C.length) (hs : stepF i (cutAt 32 (C.getD i [])) (stF C i) = none) : lnE C i = 1 := by
  unfold lnE
  rw [if_pos h, hs]; rfl
theorem lineK_any (X : List ByteArray) (C : List (List UInt8)) (A : Nat → Addr) (m : Int) (kp : Nat × Array Value) (w0 : World) (fb : Nat) (hX : bl X = addEnds 10 C) (hz : ∀ x, x ∈ X → x.size < 4294967281) (hC : ∀ p, p ∈ C → (10 : UInt8) ∉ p) (hn : C.length ≤ 1000000) (S : Te w0 A m) (i : Nat) (hi : i < X.length) (W : World) (h : Ik kp w0 fb C i W) :
    Calls Tryz.prog 61 (#[.int .i64 (i : Int), .string X[i]] ++ #[.pointer (some ⟨fb, 0, none⟩)]) W fun e w' => e = .returned (errA A (lnE C i)) ∧ (lnE C i = 0 → Ik kp w0 fb C (i + 1) w') ∧ Jk kp w0 fb w' := by
  obtain ⟨v, u, hr⟩ := h
  obtain ⟨hc, he⟩ := ends_at hX hi
  have hzi := hz X[i] (List.getElem_mem hi)
  have hS := S.below hr.bl
  by_cases hl : i + 1 < C.length
  · rw [if_pos hl] at he
    refine (lineK_end X[i] (C.getD i []) i (stF C i) v u A m kp w0 W fb hzi hS hr he (by have := st_many C i; omega)).mono fun e w' hp => ?_
    cases hs : stepF i (cutAt 32 (C.getD i [])) (stF C i) with
    | none =>
      rw [hs] at hp
      obtain ⟨h1, v', u', h2⟩ := hp
      rw [lnE_none hl hs]
      exact ⟨h1, (fun h => by cases h), _, _, _, h2⟩
    | some f =>
      rw [hs] at hp
      obtain ⟨h1, v', u', h2⟩ := hp
      obtain ⟨e1, e2⟩ := lnE_some hl hs
      rw [e1]
      exact ⟨h1, fun _ => ⟨v', u', by rw [e2]; exact h2⟩, _, _, _, h2⟩
  · rw [if_neg hl] at he
    have hd : C.getD i [] = C[i] := by simp [List.getD, List.getElem?_eq_getElem hc]
    have h10 : (10 : UInt8) ∉ X[i].data.toList := by rw [he, hd]; exact hC _ (List.getElem_mem hc)
    by_cases h0 : i ≠ 0 ∧ C.getD i [] = []
    · have e1 : lnE C i = 0 := by unfold lnE; rw [if_neg hl, if_pos h0]
      have e2 : stF C (i + 1) = stF C i := by
        rw [stF, h0.2]
        have : stepF i (cutAt 32 []) (stF C i) = none := by unfold stepF; rw [if_neg h0.1]; rfl
        rw [this]; rfl
      have e3 : X[i] = ⟨#[]⟩ := by
        have := bt_of' (he.trans h0.2)
        exact this
      rw [e1, e3]
      exact (lineK_nil i W fb (by omega)).mono fun e w' ⟨h1, h2⟩ => by subst h2; exact ⟨h1, fun _ => ⟨v, u, by rw [e2]; exact hr⟩, _, _, _, hr⟩
    · have e1 : lnE C i = 1 := by unfold lnE; rw [if_neg hl, if_neg h0]
      rw [e1]
      refine (lineK_open X[i] i A m W fb hzi hS h10 ?_).mono fun e w' ⟨h1, h2⟩ => by subst h2; exact ⟨h1, (fun h => by cases h), _, _, _, hr⟩
      by_cases hz0 : i = 0
      · exact Or.inl hz0
      · refine Or.inr (fun e => h0 ⟨hz0, ?_⟩)
        rw [← he, e]

/-- What readLines answers. -/
def LinesP (s : List UInt8) (A : Nat → Addr) (w w' : World) (e : Ending) : Prop :=
  ∃ (P : ByteArray) (v u x : Value), e = .returned (.tuple #[.agg #[.string P, v, u], x]) ∧ Below w.heap.size w w' ∧ (∃ a n c, v = .slice a n c) ∧ (∃ a n c, u = .slice a n c) ∧
    match readL s with
    | .error i => ErrAt w' A x 1 (some i)
    | .ok f => x = .nilIface ∧ P = f.1 ∧ w'.ownsRow w.heap.size 26 2 v f.2.1.length (flatM f.2.1) ∧ w'.ownsRow w.heap.size 26 2 u f.2.2.length (flatM f.2.2) ∧ ∀ g, v.ownBlock = some g → u.ownBlock ≠ some g
theorem lnE_two (C : List (List UInt8)) (i : Nat) : lnE C i = 0 ∨ lnE C i = 1 := by
  unfold lnE
  split
  · split
    · exact Or.inr rfl
    · exact Or.inl rfl
  · split
    · exact Or.inl rfl
    · exact Or.inr rfl
theorem heap_new (w : World) (o : Obj) : (w.alloc o).heap[w.heap.size]? = some o := heap_alloc_new w o
theorem heap_old (w : World) (o : Obj) {b : Nat} {x : Obj} (h : w.heap[b]? = some x) : (w.alloc o).heap[b]? = some x := by
  rw [((Below.refl w.heap.size w).alloc (Nat.le_refl _) o).block b (lt_of_blk h)]; exact h
/-- The file, before any line is read. -/
theorem rd_start (w : World) (X : List ByteArray) : Rd (w.heap.size + 1, (X.map Value.string).toArray) w
    ((w.alloc (.cells #[.string ⟨#[]⟩, .slice none 0 0, .slice none 0 0] 24)).alloc (.cells (X.map Value.string).toArray 9))
    w.heap.size noFile (.slice none 0 0) (.slice none 0 0) := by
  refine ⟨?_, ?_, by omega, ?_, World.ownsRow_nil _ _ _ _, World.ownsRow_nil _ _ _ _, fun g h => by simp [Value.ownBlock] at h⟩
  · have := heap_new (w.alloc (.cells #[.string ⟨#[]⟩, .slice none 0 0, .slice none 0 0] 24)) (.cells (X.map Value.string).toArray 9)
    simpa using this
  · exact ((Below.refl w.heap.size w).alloc (Nat.le_refl _) _).alloc (by simp) _
  · exact heap_old _ _ (heap_new w _)
theorem own_base {W : World} {B B' n : Nat} {e : TypeId} {v : Value} {xs : List Value} (h : W.ownsRow B e 2 v n xs) (hB : B' ≤ B) : W.ownsRow B' e 2 v n xs := by
  obtain ⟨hl, h | ⟨g, cap, cur, e1, e2, e3, e4, e5, e6, e7⟩⟩ := h
  · exact ⟨hl, Or.inl h⟩
  · exact ⟨hl, Or.inr ⟨g, cap, cur, e1, Nat.le_trans hB e2, e3, e4, e5, e6, e7⟩⟩
/-- A file's three cells, stored. -/
def put3 (W : World) (b : Nat) (x y z : Value) : World := ((W.setCell ⟨b, 0, none⟩ x).setCell ⟨b, 1, none⟩ y).setCell ⟨b, 2, none⟩ z
theorem put3_below {W w : World} {B b : Nat} {x y z : Value} (h : Below B w W) (hb : B ≤ b) : Below B w (put3 W b x y z) :=
  ((h.setCell (p := ⟨b, 0, none⟩) hb _).setCell (p := ⟨b, 1, none⟩) hb _).setCell (p := ⟨b, 2, none⟩) hb _
theorem put3_cell {W : World} {b b' o : Nat} {x y z : Value} (h : b' ≠ b) : (put3 W b x y z).cell? ⟨b', o, none⟩ = W.cell? ⟨b', o, none⟩ := by
  unfold put3
  have go : ∀ (V : World) (k : Nat) (q : Value), (V.setCell ⟨b, k, none⟩ q).cell? ⟨b', o, none⟩ = V.cell? ⟨b', o, none⟩ := fun V k q => World.cell?_of_block (Below.heap_setCell _ _ _ _ h)
  rw [go, go, go]
theorem put3_owns {W : World} {B b n : Nat} {e : TypeId} {v x y z : Value} {xs : List Value} (h : W.ownsRow B e 2 v n xs) (hne : v.ownBlock ≠ some b) : (put3 W b x y z).ownsRow B e 2 v n xs :=
  owns_set (owns_set (owns_set h hne) hne) hne
theorem put3_err {W : World} {A : Nat → Addr} {b c : Nat} {o : Option Nat} {v x y z : Value} {s : ByteArray} (h : ErrAt W A v c o) (hs : W.cell? ⟨b, 0, none⟩ = some (.string s)) : ErrAt (put3 W b x y z) A v c o := by
  cases o with
  | none => exact h
  | some i =>
    obtain ⟨h0, k, h1, h2, h3⟩ := h
    have hne : k ≠ b := fun e => by rw [e, hs] at h2; cases h2
    exact ⟨h0, k, h1, by rw [put3_cell hne]; exact h2, by rw [put3_cell hne]; exact h3⟩
theorem res3f {w w3 : World} {a b c : Value} {T : TypeId} (hb : Below (w.heap.size + 1) (w.alloc (.cells #[a, b, c] T)) w3) : ∀ o, w3.frozen? ⟨w.heap.size, o, none⟩ = false := by
  intro o; rw [hb.frozen (by simp)]; simp
theorem res3b {w w3 : World} {a b c : Value} {T : TypeId} (hb : Below (w.heap.size + 1) (w.alloc (.cells #[a, b, c] T)) w3) : w3.heap[w.heap.size]? = some (.cells #[a, b, c] T (0, 0)) := by
  rw [hb.block _ (by simp)]; exact heap_new w _
theorem own_sl {W : World} {B n : Nat} {e : TypeId} {v : Value} {xs : List Value} (h : W.ownsRow B e 2 v n xs) : ∃ a n c, v = .slice a n c := by
  obtain ⟨_, ⟨h, _⟩ | ⟨g, cap, cur, e1, _⟩⟩ := h
  · exact ⟨_, _, _, h⟩
  · exact ⟨_, _, _, e1⟩
set_option maxHeartbeats 2000000 in
theorem lines_any (s : ByteArray) (A : Nat → Addr) (m : Int) (w : World) (hs : s.size < 999999) (S : Te w A m) :
    Calls Tryz.prog 35 #[.string s] w fun e w' => LinesP s.data.toList A w w' e := by
  have HBa := hid ((Below.refl w.heap.size w).alloc (Nat.le_refl _) (.cells #[.string ⟨#[]⟩, .slice none 0 0, .slice none 0 0] 24))
  have HBb := hid (HBa.out.alloc (by simp) (.cells #[.string ⟨#[]⟩, .slice none 0 0, .slice none 0 0] 24))
  have HSA := hid (splitAfter_any s m _ (by omega) (S.below HBb.out).ml)
  have HST := hid (S.below HBa.out)
  clear S
  go_enter Tryz.func35, Tryz.ntmps35
  go_wp2_with fail
  refine HSA.out.mono ?_
  rintro e w3 ⟨X, rfl, hX, rfl⟩
  have hXC : bl X = addEnds 10 (cutAt 10 s.data.toList) := by rw [hX, after_ends]
  have HCL := hid (show X.length = (cutAt 10 s.data.toList).length by rw [← bl_len, hXC, ends_len])
  have HCN := hid (show (cutAt 10 s.data.toList).length ≤ 1000000 by have := cutAt_many 10 s.data.toList; simp at this; omega)
  have HPS := hid (show 0 < (cutAt 10 s.data.toList).length from List.length_pos_iff.2 (cutAt_ne 10 _))
  have HXC := hid hXC
  have HRL := hid (readL_is s.data.toList)
  have HCC := hid (cut_no 10 s.data.toList)
  have HZ := hid (show ∀ x, x ∈ X → x.size < 4294967281 from fun x hx => by
    obtain ⟨i, hi, rfl⟩ := List.getElem_of_mem hx
    obtain ⟨hc, he⟩ := ends_at hXC hi
    have hd : (cutAt 10 s.data.toList).getD i [] = (cutAt 10 s.data.toList)[i] := by simp [List.getD, List.getElem?_eq_getElem hc]
    have h1 := cutAt_le 10 s.data.toList _ (List.getElem_mem hc)
    rw [hd] at he
    rw [← len_eq, he]
    simp at h1
    split <;> simp <;> omega)
  clear hX hXC
  generalize cutAt 10 s.data.toList = C at *
  have eg : ∀ args w, (callFunc 61 args).run Tryz.prog w = .ok (.enter 61 args) w := enters_of Tryz.func61 (by kernel_rfl) rfl
  have HRS := hid (rd_start (w.alloc (.cells #[.string ⟨#[]⟩, .slice none 0 0, .slice none 0 0] 24)) X)
  rw [show (w.alloc (.cells #[.string ⟨#[]⟩, .slice none 0 0, .slice none 0 0] 24)).heap.size = w.heap.size + 1 by simp] at HRS
  have HF := hid (first_strs 61 #[.pointer (some ⟨w.heap.size + 1, 0, none⟩)] (lnE C) X (w.heap.size + 1 + 1) X.length (Ik (w.heap.size + 1 + 1, (X.map Value.string).toArray) (w.alloc (.cells #[.string ⟨#[]⟩, .slice none 0 0, .slice none 0 0] 24)) (w.heap.size + 1) C) (Jk (w.heap.size + 1 + 1, (X.map Value.string).toArray) (w.alloc (.cells #[.string ⟨#[]⟩, .slice none 0 0, .slice none 0 0] 24)) (w.heap.size + 1)) A _ eg (by rw [HCL.out]; exact HCN.out)
    (fun k W ⟨v, u, h⟩ j hj => by rw [Lib.cell_of_heap h.kb]; simp [hj])
    (fun k W ⟨v, u, h⟩ => ⟨_, v, u, h⟩)
    (fun W o ⟨f, v, u, h⟩ => ⟨f, v, u, h.below ((Below.refl _ _).alloc (Nat.le_refl _) o)⟩)
    ⟨_, _, HRS.out⟩
    (fun i hi W hI => lineK_any X C A m _ _ (w.heap.size + 1) HXC.out HZ.out HCC.out HCN.out HST.out i hi W hI))
  clear eg
  go_wp2_with fail
  refine HF.out.mono ?_
  rintro e w4 ⟨x, rfl, hx, hI, hJ⟩
  rw [HCL.out] at hx hI
  cases hfe : fstE (lnE C) C.length with
  | some i =>
    obtain ⟨f, v, u, hr⟩ := hJ
    obtain ⟨va, vn, vc, rfl⟩ := own_sl hr.ov
    obtain ⟨ua, un, uc, rfl⟩ := own_sl hr.ou
    have HB1 := hid (show Below (w.heap.size + 1) (w.alloc (.cells #[.string ⟨#[]⟩, .slice none 0 0, .slice none 0 0] 24)) w4 from by have := hr.bl; simpa using this)
    obtain ⟨⟨r0, r1, r2⟩, rz⟩ := res3 HB1.out
    have rf := res3f HB1.out
    have c0 := hr.c0
    have c1 := hr.c1
    have c2 := hr.c2
    have HX := hid hx
    rw [codeE_some hfe, hfe] at HX
    have HFE := hid hfe
    clear hx hI hr hfe
    go_wp2_with fail
    refine bodyPost_ret (v := .tuple #[.agg #[.string f.1, .slice va vn vc, .slice ua un uc], x]) (by simp [results, Tryz.results35, go_sem, r0, r1, r2]) rfl ?_
    refine ⟨_, _, _, _, rfl, put3_below (HBa.out.trans (HB1.out.mono (by omega))) (Nat.le_refl _), ⟨_, _, _, rfl⟩, ⟨_, _, _, rfl⟩, ?_⟩
    rw [HRL.out, HFE.out]
    have h1 : lnE C i = 1 := (lnE_two C i).resolve_left (fstE_of_some HFE.out).2.1
    have h2 := HX.out
    rw [h1] at h2
    exact put3_err h2 r0
  | none =>
    obtain ⟨v, u, hr⟩ := hI hfe
    rw [last_st HPS.out hfe] at hr
    obtain ⟨va, vn, vc, rfl⟩ := own_sl hr.ov
    obtain ⟨ua, un, uc, rfl⟩ := own_sl hr.ou
    have HB1 := hid (show Below (w.heap.size + 1) (w.alloc (.cells #[.string ⟨#[]⟩, .slice none 0 0, .slice none 0 0] 24)) w4 from by have := hr.bl; simpa using this)
    obtain ⟨⟨r0, r1, r2⟩, rz⟩ := res3 HB1.out
    have rf := res3f HB1.out
    have HRB := hid (res3b HB1.out)
    have c0 := hr.c0
    have c1 := hr.c1
    have c2 := hr.c2
    rw [codeE_none hfe, hfe] at hx
    have hx : x = .nilIface := hx
    subst hx
    have HFE := hid hfe
    have HR := hid hr
    clear hI hJ hr hfe
    go_wp2_with fail
    refine bodyPost_ret (v := .tuple #[.agg #[.string (stF C (C.length - 1)).1, .slice va vn vc, .slice ua un uc], .nilIface]) (by simp [results, Tryz.results35, go_sem, r0, r1, r2]) rfl ?_
    refine ⟨_, _, _, _, rfl, put3_below (HBa.out.trans (HB1.out.mono (by omega))) (Nat.le_refl _), ⟨_, _, _, rfl⟩, ⟨_, _, _, rfl⟩, ?_⟩
    rw [HRL.out, HFE.out]
    refine ⟨rfl, rfl, put3_owns (own_base HR.out.ov (by simp)) (own_ne2 HR.out.ov HRB.out (by decide)), put3_owns (own_base HR.out.ou (by simp)) (own_ne2 HR.out.ou HRB.out (by decide)), HR.out.ap⟩
end Ve
end Go.Proofs.YtjphlclhkaoipaaGreatDoor

/-
  What the document's answer says of a file (FileFault): what is wrong with it, and where; nothing old in memory turns.
-/
namespace Go.Proofs.YtjphlclhkaoipaaGreatDoor
open Go.RowKit
namespace Ve

/-- A place as a number; nowhere: -1. -/
def atOf : Option Nat → Int
  | none => -1
  | some i => (i : Int)
/-- A fault as the document's answer has it. -/
def faultV (r : Nat × Option Nat) : Value := .agg #[.int .i64 (r.1 : Nat), .int .i64 (atOf r.2)]
theorem MsAt.at {w : World} {a : Option Addr} {n c : Nat} {L : List Bm} (h : MsAt w (.slice a n c) L) (h0 : 0 < L.length) :
    ∃ b o, a = some ⟨b, o, none⟩ ∧ ∀ j (h : j < L.length), w.cell? ⟨b, o + j * 2, none⟩ = some (.string L[j].1) ∧ w.cell? ⟨b, o + j * 2 + 1, none⟩ = some (.string L[j].2) := by
  obtain ⟨a', c', e, _, h⟩ := h
  obtain ⟨b, o, e2, h2⟩ := h (by intro e; rw [e] at h0; simp at h0)
  injection e with e3 e4 e5
  exact ⟨b, o, by rw [e3, e2], h2⟩
theorem blk_keep {W W' : World} {b : Nat} {o : Obj} (h : W.heap[b]? = some o) (hb : Below W.heap.size W W') : W'.heap[b]? = some o := by rw [hb.block _ (lt_of_blk h)]; exact h
theorem fld0 (a b : Int) (W : World) : (Instr.field 35 (.agg #[.int .i64 a, .int .i64 b]) 0).run Tryz.prog W = .ok (.int .i64 a) W := by kernel_rfl
/-- Two boxes, and what lies in them while memory grows. -/
theorem bx32 {w w3 : World} {a b c d e : Value} {T T' : TypeId} (hb : Below (w.heap.size + 1 + 1) ((w.alloc (.cells #[a, b, c] T)).alloc (.cells #[d, e] T')) w3) :
    (w3.cell? ⟨w.heap.size, 0, none⟩ = some a ∧ w3.cell? ⟨w.heap.size, 1, none⟩ = some b ∧ w3.cell? ⟨w.heap.size, 2, none⟩ = some c) ∧ (w3.cell? ⟨w.heap.size + 1, 0, none⟩ = some d ∧ w3.cell? ⟨w.heap.size + 1, 1, none⟩ = some e) ∧ (∀ o, w3.frozen? ⟨w.heap.size + 1, o, none⟩ = false) ∧ w.heap.size + 1 < w3.heap.size := by
  have h1 : w3.heap[w.heap.size]? = some (.cells #[a, b, c] T (0, 0)) := by rw [hb.block _ (by omega)]; exact heap_old _ _ (heap_new w _)
  have hz : (w.alloc (.cells #[a, b, c] T)).heap.size = w.heap.size + 1 := by simp
  have h2 : w3.heap[w.heap.size + 1]? = some (.cells #[d, e] T' (0, 0)) := by
    have := heap_new (w.alloc (.cells #[a, b, c] T)) (.cells #[d, e] T')
    rw [hz] at this
    rw [hb.block _ (by omega)]; exact this
  refine ⟨⟨?_, ?_, ?_⟩, ⟨?_, ?_⟩, fun o => Lib.frozen_of_heap h2 o, lt_of_blk h2⟩
  · rw [Lib.cell_of_heap h1]; rfl
  · rw [Lib.cell_of_heap h1]; rfl
  · rw [Lib.cell_of_heap h1]; rfl
  · rw [Lib.cell_of_heap h2]; rfl
  · rw [Lib.cell_of_heap h2]; rfl
theorem put2_below {W w : World} {B b : Nat} {x y : Value} (h : Below B w W) (hb : B ≤ b) : Below B w ((W.setCell ⟨b, 0, none⟩ x).setCell ⟨b, 1, none⟩ y) :=
  (h.setCell (p := ⟨b, 0, none⟩) hb _).setCell (p := ⟨b, 1, none⟩) hb _
theorem rbare_any (n : Int) (w : World) : Calls Tryz.prog 27 #[.int .i64 n] w fun e w' => e = .returned (.agg #[.int .i64 n, .int .i64 (-1)]) ∧ Below w.heap.size w w' := by
  go_enter Tryz.func27, Tryz.ntmps27
  go_wp2_with fail
  refine bodyPost_ret (v := .agg #[.int .i64 n, .int .i64 (-1)]) (by simp [results, Tryz.results27, go_sem]) rfl ⟨rfl, ?_⟩
  exact (Below.refl w.heap.size w).alloc (Nat.le_refl _) _
theorem fine_any (w : World) : Calls Tryz.prog 31 #[] w fun e w' => e = .returned (.agg #[.int .i64 0, .int .i64 (-1)]) ∧ Below w.heap.size w w' := by
  go_enter Tryz.func31, Tryz.ntmps31
  go_wp2_with fail
  refine bodyPost_ret (v := .agg #[.int .i64 0, .int .i64 (-1)]) (by simp [results, Tryz.results31, go_sem]) rfl ⟨rfl, ?_⟩
  exact (Below.refl w.heap.size w).alloc (Nat.le_refl _) _

set_option maxHeartbeats 1000000 in
theorem ff_path (p : ByteArray) (R X : List Bm) (v u : Value) (w : World) (hp : p.size < 999999) (F : Fl w R X v u) (h : pathErr p.data.toList ≠ 0) :
    Calls Tryz.prog 9 #[.agg #[.string p, v, u]] w fun e w' => e = .returned (faultV (fileF p R X)) ∧ Below w.heap.size w w' := by
  rw [fileF_path h]
  obtain ⟨⟨vp, vc, rfl⟩, up, uc, rfl⟩ := F.slices
  have HB0 := hid (((Below.refl w.heap.size w).alloc (Nat.le_refl _) (.cells #[.string p, .slice vp R.length vc, .slice up X.length uc] 24)).alloc (by simp) (.cells #[.int .i64 0, .int .i64 0] 35))
  have HP := hid (pathError_any p ((w.alloc (.cells #[.string p, .slice vp R.length vc, .slice up X.length uc] 24)).alloc (.cells #[.int .i64 0, .int .i64 0] 35)) (by omega))
  have hpos : (0 : Int) < (pathErr p.data.toList : Int) := by omega
  generalize pathErr p.data.toList = z at *
  clear F h
  go_enter Tryz.func9, Tryz.ntmps9
  go_wp2_with fail
  refine HP.out.mono ?_
  rintro e w1 ⟨rfl, hb⟩
  obtain ⟨⟨r0, r1, r2⟩, ⟨s0, s1⟩, sf, rz⟩ := bx32 (hb.mono (by simp))
  have HB := hid (HB0.out.trans (hb.mono HB0.out.size))
  clear hb
  go_wp2_with fail
  refine (rbare_any _ _).mono ?_
  rintro e w2 ⟨rfl, hb⟩
  replace s0 := cell_below hb s0
  replace s1 := cell_below hb s1
  have tf := fun o => (hb.frozen (p := ⟨w.heap.size + 1, o, none⟩) rz).trans (sf o)
  have HB2 := hid (HB.out.trans (hb.mono HB.out.size))
  clear hb sf
  go_wp2_with fail
  refine bodyPost_ret (v := .agg #[.int .i64 z, .int .i64 (-1)]) (by simp [results, Tryz.results9, go_sem, s0, s1]) rfl ⟨rfl, ?_⟩
  exact put2_below HB2.out (by omega)
set_option maxHeartbeats 1000000 in
theorem ff_full (p : ByteArray) (R X : List Bm) (v u : Value) (w : World) (hp : p.size < 999999) (F : Fl w R X v u) (h : pathErr p.data.toList = 0) (h2 : 20 < R.length ∨ 20 < X.length) :
    Calls Tryz.prog 9 #[.agg #[.string p, v, u]] w fun e w' => e = .returned (faultV (fileF p R X)) ∧ Below w.heap.size w w' := by
  rw [fileF_full h h2]
  obtain ⟨⟨vp, vc, rfl⟩, up, uc, rfl⟩ := F.slices
  have HB0 := hid (((Below.refl w.heap.size w).alloc (Nat.le_refl _) (.cells #[.string p, .slice vp R.length vc, .slice up X.length uc] 24)).alloc (by simp) (.cells #[.int .i64 0, .int .i64 0] 35))
  have HP := hid (pathError_any p ((w.alloc (.cells #[.string p, .slice vp R.length vc, .slice up X.length uc] 24)).alloc (.cells #[.int .i64 0, .int .i64 0] 35)) (by omega))
  rw [h] at HP
  clear F h
  by_cases h4 : 20 < R.length
  · have h5 : (20 : Int) < (R.length : Int) := by omega
    clear h2 h4
    go_enter Tryz.func9, Tryz.ntmps9
    go_wp2_with fail
    refine HP.out.mono ?_
    rintro e w1 ⟨rfl, hb⟩
    obtain ⟨⟨r0, r1, r2⟩, ⟨s0, s1⟩, sf, rz⟩ := bx32 (hb.mono (by simp))
    have HB := hid (HB0.out.trans (hb.mono HB0.out.size))
    clear hb
    go_wp2_with fail
    refine (rbare_any _ _).mono ?_
    rintro e w2 ⟨rfl, hb⟩
    replace s0 := cell_below hb s0
    replace s1 := cell_below hb s1
    have tf := fun o => (hb.frozen (p := ⟨w.heap.size + 1, o, none⟩) rz).trans (sf o)
    have HB2 := hid (HB.out.trans (hb.mono HB.out.size))
    clear hb sf
    go_wp2_with fail
    refine bodyPost_ret (v := .agg #[.int .i64 7, .int .i64 (-1)]) (by simp [results, Tryz.results9, go_sem, s0, s1]) rfl ⟨rfl, ?_⟩
    exact put2_below HB2.out (by omega)
  · have h5 : ¬ (20 : Int) < (R.length : Int) := by omega
    have h6 : (20 : Int) < (X.length : Int) := by omega
    clear h2 h4
    go_enter Tryz.func9, Tryz.ntmps9
    go_wp2_with fail
    refine HP.out.mono ?_
    rintro e w1 ⟨rfl, hb⟩
    obtain ⟨⟨r0, r1, r2⟩, ⟨s0, s1⟩, sf, rz⟩ := bx32 (hb.mono (by simp))
    have HB := hid (HB0.out.trans (hb.mono HB0.out.size))
    clear hb
    go_wp2_with fail
    refine (rbare_any _ _).mono ?_
    rintro e w2 ⟨rfl, hb⟩
    replace s0 := cell_below hb s0
    replace s1 := cell_below hb s1
    have tf := fun o => (hb.frozen (p := ⟨w.heap.size + 1, o, none⟩) rz).trans (sf o)
    have HB2 := hid (HB.out.trans (hb.mono HB.out.size))
    clear hb sf
    go_wp2_with fail
    refine bodyPost_ret (v := .agg #[.int .i64 7, .int .i64 (-1)]) (by simp [results, Tryz.results9, go_sem, s0, s1]) rfl ⟨rfl, ?_⟩
    exact put2_below HB2.out (by omega)
set_option maxHeartbeats 1000000 in
theorem ff_req (p : ByteArray) (R X : List Bm) (v u : Value) (i : Nat) (w : World) (hp : p.size < 999999) (F : Fl w R X v u) (h : pathErr p.data.toList = 0) (h2 : ¬ (20 < R.length ∨ 20 < X.length)) (h3 : fstE (reqE p R) R.length = some i) :
    Calls Tryz.prog 9 #[.agg #[.string p, v, u]] w fun e w' => e = .returned (faultV (fileF p R X)) ∧ Below w.heap.size w w' := by
  rw [fileF_req h h2 h3]
  obtain ⟨⟨vp, vc, rfl⟩, up, uc, rfl⟩ := F.slices
  have HB0 := hid (((Below.refl w.heap.size w).alloc (Nat.le_refl _) (.cells #[.string p, .slice vp R.length vc, .slice up X.length uc] 24)).alloc (by simp) (.cells #[.int .i64 0, .int .i64 0] 35))
  have HP := hid (pathError_any p ((w.alloc (.cells #[.string p, .slice vp R.length vc, .slice up X.length uc] 24)).alloc (.cells #[.int .i64 0, .int .i64 0] 35)) (by omega))
  rw [h] at HP
  have HF := hid (F.below HB0.out)
  have HRR := hid (show reqsR p R = (reqE p R i, i) by unfold reqsR; rw [h3])
  have hpos : (0 : Int) < (reqE p R i : Int) := by have := (fstE_of_some h3).2.1; omega
  have h4 : ¬ (20 : Int) < (R.length : Int) := by omega
  have h5 : ¬ (20 : Int) < (X.length : Int) := by omega
  generalize reqE p R i = z at *
  clear F h h2 h3
  go_enter Tryz.func9, Tryz.ntmps9
  go_wp2_with fail
  refine HP.out.mono ?_
  rintro e w1 ⟨rfl, hb⟩
  obtain ⟨⟨r0, r1, r2⟩, ⟨s0, s1⟩, sf, rz⟩ := bx32 (hb.mono (by simp))
  have HB := hid (HB0.out.trans (hb.mono HB0.out.size))
  have HRQ := hid (reqsE_any p R _ w1 HF.out.rn HF.out.rs (HF.out.r.below hb))
  rw [HRR.out] at HRQ
  clear hb
  go_wp2_with fail
  refine HRQ.out.mono ?_
  rintro e w2 ⟨rfl, hb⟩
  replace s0 := cell_below hb s0
  replace s1 := cell_below hb s1
  have tf := fun o => (hb.frozen (p := ⟨w.heap.size + 1, o, none⟩) rz).trans (sf o)
  have HB2 := hid (HB.out.trans (hb.mono HB.out.size))
  clear hb sf
  go_wp2_with fail
  refine bodyPost_ret (v := .agg #[.int .i64 z, .int .i64 i]) (by simp [results, Tryz.results9, go_sem, s0, s1]) rfl ⟨rfl, ?_⟩
  exact put2_below HB2.out (by omega)

theorem ff_ex_is {p : ByteArray} {R X : List Bm} {k : Nat} (h : pathErr p.data.toList = 0) (h2 : ¬ (20 < R.length ∨ 20 < X.length)) (h3 : fstE (reqE p R) R.length = none) (h0 : ∀ j, j < k → exE X j = 0) (hk : k < X.length) (h4 : exE X k ≠ 0) : fileF p R X = (exE X k, some k) :=
  fileF_ex h h2 h3 (fstE_some h0 h4 hk)
theorem ff_cl_is {p : ByteArray} {R X : List Bm} {k : Nat} (h : pathErr p.data.toList = 0) (h2 : ¬ (20 < R.length ∨ 20 < X.length)) (h3 : fstE (reqE p R) R.length = none) (hx : ∀ j, j < X.length → exE X j = 0) (h0 : ∀ j, j < k → clE X R j = 0) (hk : k < R.length) (h4 : clE X R k ≠ 0) : fileF p R X = (9, some k) := by
  rw [fileF_cl h h2 h3 (fstE_none hx)]
  have e := fstE_some h0 h4 hk
  rw [codeE_some e, e]
  have : clE X R k = 9 := by
    unfold clE at h4 ⊢
    rw [List.getElem?_eq_getElem hk] at h4 ⊢
    simp only at h4 ⊢
    split
    · rfl
    · rename_i hh; rw [if_neg hh] at h4; exact absurd rfl h4
  rw [this]
theorem ff_fine_is {p : ByteArray} {R X : List Bm} (h : pathErr p.data.toList = 0) (h2 : ¬ (20 < R.length ∨ 20 < X.length)) (h3 : fstE (reqE p R) R.length = none) (hx : ∀ j, j < X.length → exE X j = 0) (h0 : ∀ j, j < R.length → clE X R j = 0) : fileF p R X = (0, none) := by
  rw [fileF_cl h h2 h3 (fstE_none hx)]
  have e := fstE_none h0
  rw [codeE_none e, e]
/-- None of the first k is the module. -/
def noneB (X : List Bm) (m : Bm) (k : Nat) : Prop := ∀ j (h : j < X.length), j < k → ¬ (m.1 = X[j].1 ∧ m.2 = X[j].2)
theorem noneB_next {X : List Bm} {m : Bm} {k : Nat} (hk : k < X.length) (h : noneB X m k) (hm : ¬ (m.1 = X[k].1 ∧ m.2 = X[k].2)) : noneB X m (k + 1) := fun j hj hjk => by
  rcases Nat.lt_or_ge j k with h1 | h1
  · exact h j hj h1
  · have : j = k := by omega
    subst this; exact hm
theorem noneB_cl {X R : List Bm} {k : Nat} (hk : k < R.length) (h : noneB X R[k] X.length) : clE X R k = 0 := by
  unfold clE
  rw [List.getElem?_eq_getElem hk]
  simp only
  rw [hasB_not, if_neg (by decide)]
  intro hm
  obtain ⟨j, hj, e⟩ := List.getElem_of_mem hm
  exact h j hj hj ⟨by rw [e], by rw [e]⟩
theorem someB_cl {X R : List Bm} {k j : Nat} (hk : k < R.length) (hj : j < X.length) (h : R[k].1 = X[j].1 ∧ R[k].2 = X[j].2) : clE X R k ≠ 0 := by
  unfold clE
  rw [List.getElem?_eq_getElem hk]
  simp only
  have : R[k] = X[j] := by
    generalize R[k] = a at *; generalize X[j] = b at *
    obtain ⟨a1, a2⟩ := a; obtain ⟨b1, b2⟩ := b
    simp only at h; rw [h.1, h.2]
  rw [hasB_iff.2 (by rw [this]; exact List.getElem_mem hj), if_pos rfl]; decide
set_option maxHeartbeats 8000000 in
set_option maxRecDepth 100000 in
theorem ff_rest (p : ByteArray) (R X : List Bm) (v u : Value) (w : World) (hp : p.size < 999999) (F : Fl w R X v u) (h : pathErr p.data.toList = 0) (h2 : ¬ (20 < R.length ∨ 20 < X.length)) (h3 : fstE (reqE p R) R.length = none) :
    Calls Tryz.prog 9 #[.agg #[.string p, v, u]] w fun e w' => e = .returned (faultV (fileF p R X)) ∧ Below w.heap.size w w' := by
  have HX1 := hid (fun k => ff_ex_is (k := k) h h2 h3)
  have HX2 := hid (fun k => ff_cl_is (k := k) h h2 h3)
  have HX3 := hid (ff_fine_is h h2 h3)
  have HRR := hid (show reqsR p R = (0, 0) by unfold reqsR; rw [h3])
  obtain ⟨⟨vp, vc, rfl⟩, up, uc, rfl⟩ := F.slices
  have HB0 := hid (((Below.refl w.heap.size w).alloc (Nat.le_refl _) (.cells #[.string p, .slice vp R.length vc, .slice up X.length uc] 24)).alloc (by simp) (.cells #[.int .i64 0, .int .i64 0] 35))
  have HP := hid (pathError_any p ((w.alloc (.cells #[.string p, .slice vp R.length vc, .slice up X.length uc] 24)).alloc (.cells #[.int .i64 0, .int .i64 0] 35)) (by omega))
  rw [h] at HP
  have HF := hid (F.below HB0.out)
  obtain ⟨⟨z0, z1, z2⟩, ⟨y0, y1⟩, yf, yz⟩ := bx32 (Below.refl (w.heap.size + 1 + 1) ((w.alloc (.cells #[.string p, .slice vp R.length vc, .slice up X.length uc] 24)).alloc (.cells #[.int .i64 0, .int .i64 0] 35)))
  have HZ0 := hid z0
  have HZ1 := hid z1
  have HZ2 := hid z2
  have HY0 := hid y0
  have HY1 := hid y1
  have HYF := hid yf
  have HYZ := hid yz
  have h4 : ¬ (20 : Int) < (R.length : Int) := by omega
  have h5 : ¬ (20 : Int) < (X.length : Int) := by omega
  have hRn : R.length ≤ 20 := by omega
  have hXn : X.length ≤ 20 := by omega
  have hgd := modGuard
  clear F h h2 h3 z0 z1 z2 y0 y1 yf yz
  go_enter Tryz.func9, Tryz.ntmps9
  go_wp2_with fail
  generalize hW : (w.alloc (.cells #[.string p, .slice vp R.length vc, .slice up X.length uc] 24)).alloc (.cells #[.int .i64 0, .int .i64 0] 35) = W0 at *
  refine HP.out.mono ?_
  rintro e w1 ⟨rfl, hb⟩
  have HB1 := hid hb
  have r0 := cell_below hb HZ0.out
  have r1 := cell_below hb HZ1.out
  have r2 := cell_below hb HZ2.out
  have HRQ := hid (reqsE_any p R _ w1 HF.out.rn HF.out.rs (HF.out.r.below hb))
  rw [HRR.out] at HRQ
  clear hb
  go_wp2_with fail
  refine HRQ.out.mono ?_
  rintro e w2 ⟨rfl, hb⟩
  have HB2 := hid (HB1.out.trans (hb.mono HB1.out.size))
  replace r0 := cell_below hb r0
  replace r1 := cell_below hb r1
  replace r2 := cell_below hb r2
  clear hb
  go_wp2_with fail
  go_loopw [5] (fun i wr => ∃ k : Nat, k ≤ X.length ∧ i = .int .i64 k ∧ Hid (∀ j, j < k → exE X j = 0) ∧ Hid (Below W0.heap.size W0 wr)) (fun i _ => X.length - (intOf i).toNat)
  case atStart => exact ⟨0, Nat.zero_le _, rfl, hid (fun j hj => absurd hj (by omega)), HB2⟩
  case round =>
    obtain ⟨k, hk, rfl, HZ, HB⟩ := hrel
    clear r0 r1 r2
    have r0 := cell_below HB.out HZ0.out
    have r1 := cell_below HB.out HZ1.out
    have r2 := cell_below HB.out HZ2.out
    by_cases hlt : k < X.length
    · obtain ⟨b, o, rfl, hc⟩ := HF.out.x.at (by omega)
      have hx := cell_below HB.out (hc k hlt).1
      have hy := cell_below HB.out (hc k hlt).2
      have hkI : (k : Int) < (X.length : Int) := by omega
      have HM := hid (modError_any X[k].1 X[k].2 wr (by have := (HF.out.xs X[k] (List.getElem_mem hlt)).1; omega) (by have := (HF.out.xs X[k] (List.getElem_mem hlt)).2; omega))
      rw [show modErr X[k].1.data.toList X[k].2.data.toList = mErr X[k] from rfl] at HM
      have HN := hid (fun h => HX1.out k HZ.out hlt h)
      have HY := hid (fun h => zero_next HZ.out h)
      have HLT := hid hlt
      have HCC := hid hc
      clear hc
      rcases Nat.eq_zero_or_pos k with h00 | h00
      · have HE := hid (show exE X k = exW none X[k] by subst h00; exact exE_0 hlt)
        have g3 : decide (0 < k) = false := decide_eq_false (by omega)
        generalize X[k] = x at *
        obtain ⟨p1, v1⟩ := x
        clear hlt h00
        by_cases h0 : mErr (p1, v1) = 0
        · have HV := hid (HY.out (by rw [HE.out, exW_none h0]))
          rw [h0] at HM
          clear h0
          go_wp2_with fail
          refine HM.out.mono ?_
          rintro e w3 ⟨rfl, hb⟩
          have HB3 := hid (HB.out.trans (hb.mono HB.out.size))
          replace r2 := cell_below hb r2
          clear hb
          go_wp2_with fail
          go_roundw
          case rel => exact ⟨k + 1, by have := HLT.out; omega, by go_num, HV, HB3⟩
          case measure => have := HLT.out; simp [intOf]; omega
        · have HV := hid (HN.out (by rw [HE.out, exW_bad h0]; exact h0))
          rw [HE.out, exW_bad h0] at HV
          have hpos : (0 : Int) < (mErr (p1, v1) : Int) := by omega
          have hne : ((mErr (p1, v1) : Int) == 0) = false := beq_eq_false_iff_ne.2 (by omega)
          generalize mErr (p1, v1) = z at *
          clear h0
          go_wp2_with fail
          refine HM.out.mono ?_
          rintro e w3 ⟨rfl, hb⟩
          have HB3 := hid (HB.out.trans (hb.mono HB.out.size))
          clear hb
          have s0 := cell_below HB3.out HY0.out
          have s1 := cell_below HB3.out HY1.out
          have sf := fun o => (HB3.out.frozen (p := ⟨w.heap.size + 1, o, none⟩) HYZ.out).trans (HYF.out o)
          go_wp2_with fail
          refine bodyPost_ret (v := .agg #[.int .i64 z, .int .i64 k]) (by simp [results, Tryz.results9, go_sem, s0, s1]) rfl ⟨?_, ?_⟩
          · rw [HV.out]; rfl
          · exact put2_below (HB0.out.trans (HB3.out.mono HB0.out.size)) (by omega)
      · obtain ⟨q, hq⟩ : ∃ q, k = q + 1 := ⟨k - 1, by omega⟩
        have hql : q < X.length := by omega
        have HE := hid (show exE X k = exW (some X[q]) X[k] by subst hq; exact exE_1 hlt)
        have hxq := cell_below HB.out (HCC.out q hql).1
        have hyq := cell_below HB.out (HCC.out q hql).2
        have hs1 := (HF.out.xs X[q] (List.getElem_mem hql)).2
        have hs2 := (HF.out.xs X[k] (List.getElem_mem hlt)).2
        have gw : IntKind.i64.wrap ((k : Int) - 1) = (q : Int) := by rw [IntKind.wrap_i64]; omega
        have gw2 : (k : Int) - 1 = (q : Int) := by omega
        have gw3 : IntKind.i64.wrap (q : Int) = (q : Int) := by rw [IntKind.wrap_i64]; omega
        have g1 : (0 : Int) ≤ (q : Int) := by omega
        have g2 : (q : Int) < (X.length : Int) := by omega
        have g3 : (0 : Int) < (k : Int) := by omega
        have g4 : decide (0 < k) = true := decide_eq_true (by omega)
        generalize X[k] = x at *
        generalize X[q] = y at *
        obtain ⟨p1, v1⟩ := x
        obtain ⟨p2, v2⟩ := y
        have HA := hid (fun W => isAhead_any p2 v2 p1 v1 W hs1 hs2)
        rw [show aheadB p2.data.toList v2.data.toList p1.data.toList v1.data.toList = mAhead (p2, v2) (p1, v1) from rfl] at HA
        clear hlt hql hq h00 hs1 hs2
        by_cases h0 : mErr (p1, v1) = 0
        · rw [h0] at HM
          rw [exW_some h0] at HE
          generalize mAhead (p2, v2) (p1, v1) = z at *
          clear h0
          cases z
          · have HV := hid (HN.out (by rw [HE.out]; decide))
            rw [HE.out] at HV
            go_wp2_with fail
            refine HM.out.mono ?_
            rintro e w3 ⟨rfl, hb⟩
            have HB3 := hid (HB.out.trans (hb.mono HB.out.size))
            replace r2 := cell_below hb r2
            replace hx := cell_below hb hx
            replace hy := cell_below hb hy
            replace hxq := cell_below hb hxq
            replace hyq := cell_below hb hyq
            clear hb
            go_wp2_with fail
            go_region_with (go_at_call 30; refine (HA.out _).mono ?_; rintro e w4 ⟨rfl, hb⟩; have HB4 := hid ((HB3.out.trans ((below_drawn _ 1).mono HB3.out.size)).trans (hb.mono HB3.out.size)); clear hb)
            all_goals
              have s0 := cell_below HB4.out HY0.out
              have s1 := cell_below HB4.out HY1.out
              have sf := fun o => (HB4.out.frozen (p := ⟨w.heap.size + 1, o, none⟩) HYZ.out).trans (HYF.out o)
              go_wp2_with fail
              refine bodyPost_ret (v := .agg #[.int .i64 8, .int .i64 k]) (by simp [results, Tryz.results9, go_sem, s0, s1]) rfl ⟨?_, ?_⟩
              · rw [HV.out]; rfl
              · exact put2_below (HB0.out.trans (HB4.out.mono HB0.out.size)) (by omega)
          · have HV := hid (HY.out (by rw [HE.out]; rfl))
            go_wp2_with fail
            refine HM.out.mono ?_
            rintro e w3 ⟨rfl, hb⟩
            have HB3 := hid (HB.out.trans (hb.mono HB.out.size))
            replace r2 := cell_below hb r2
            replace hx := cell_below hb hx
            replace hy := cell_below hb hy
            replace hxq := cell_below hb hxq
            replace hyq := cell_below hb hyq
            clear hb
            go_wp2_with fail
            go_region_with (go_at_call 30; refine (HA.out _).mono ?_; rintro e w4 ⟨rfl, hb⟩; have HB4 := hid ((HB3.out.trans ((below_drawn _ 1).mono HB3.out.size)).trans (hb.mono HB3.out.size)); clear hb)
            all_goals
              go_wp2_with fail
              go_roundw
              case rel => exact ⟨k + 1, by have := HLT.out; omega, by go_num, HV, HB4⟩
              case measure => have := HLT.out; simp [intOf]; omega
        · have HV := hid (HN.out (by rw [HE.out, exW_bad h0]; exact h0))
          rw [HE.out, exW_bad h0] at HV
          have hpos : (0 : Int) < (mErr (p1, v1) : Int) := by omega
          have hne : ((mErr (p1, v1) : Int) == 0) = false := beq_eq_false_iff_ne.2 (by omega)
          generalize mErr (p1, v1) = z at *
          clear h0
          go_wp2_with fail
          refine HM.out.mono ?_
          rintro e w3 ⟨rfl, hb⟩
          have HB3 := hid (HB.out.trans (hb.mono HB.out.size))
          clear hb
          have s0 := cell_below HB3.out HY0.out
          have s1 := cell_below HB3.out HY1.out
          have sf := fun o => (HB3.out.frozen (p := ⟨w.heap.size + 1, o, none⟩) HYZ.out).trans (HYF.out o)
          go_wp2_with fail
          refine bodyPost_ret (v := .agg #[.int .i64 z, .int .i64 k]) (by simp [results, Tryz.results9, go_sem, s0, s1]) rfl ⟨?_, ?_⟩
          · rw [HV.out]; rfl
          · exact put2_below (HB0.out.trans (HB3.out.mono HB0.out.size)) (by omega)
    · have HXA := hid (show ∀ j, j < X.length → exE X j = 0 from fun j hj => HZ.out j (by omega))
      go_wp2_with fail
      go_loopw [8] (fun i wr => ∃ k : Nat, k ≤ R.length ∧ i = .int .i64 k ∧ Hid (∀ j, j < k → clE X R j = 0) ∧ Hid (Below W0.heap.size W0 wr)) (fun i _ => R.length - (intOf i).toNat)
      case atStart => exact ⟨0, Nat.zero_le _, rfl, hid (fun j hj => absurd hj (by omega)), HB⟩
      case round =>
        obtain ⟨k3, hk3, rfl, HZ3, HBr⟩ := hrel
        clear r0 r1 r2
        have r1 := cell_below HBr.out HZ1.out
        have r2 := cell_below HBr.out HZ2.out
        by_cases hlt3 : k3 < R.length
        · obtain ⟨b, o, rfl, hc⟩ := HF.out.r.at (by omega)
          have hkI : (k3 : Int) < (R.length : Int) := by omega
          have HCC := hid (hc k3 hlt3)
          have HN := hid (fun h => HX2.out k3 HXA.out HZ3.out hlt3 h)
          have HY := hid (fun h => zero_next HZ3.out h)
          have HL3 := hid hlt3
          clear hc
          go_wp2_with fail
          go_loopw [9] (fun i wr => ∃ k : Nat, k ≤ X.length ∧ i = .int .i64 k ∧ Hid (noneB X R[k3] k) ∧ Hid (Below W0.heap.size W0 wr)) (fun i _ => X.length - (intOf i).toNat)
          case atStart => exact ⟨0, Nat.zero_le _, rfl, hid (fun j _ hj => absurd hj (by omega)), HBr⟩
          case round =>
            obtain ⟨k4, hk4, rfl, HZ4, HBq⟩ := hrel
            clear r1 r2
            have r1 := cell_below HBq.out HZ1.out
            have r2 := cell_below HBq.out HZ2.out
            by_cases hlt4 : k4 < X.length
            · obtain ⟨b', o', rfl, hc'⟩ := HF.out.x.at (by omega)
              have hx := cell_below HBq.out HCC.out.1
              have hy := cell_below HBq.out HCC.out.2
              have hx' := cell_below HBq.out (hc' k4 hlt4).1
              have hy' := cell_below HBq.out (hc' k4 hlt4).2
              have hkI4 : (k4 : Int) < (X.length : Int) := by omega
              have HL4 := hid hlt4
              have HV1 := hid (fun hd => HN.out (someB_cl HL3.out hlt4 hd))
              have HV2 := hid (fun hd => noneB_next hlt4 HZ4.out hd)
              generalize X[k4] = y at *
              generalize R[k3] = x at *
              have heq := fun W => modEql x.1 x.2 y.1 y.2 W
              clear hc' hlt4
              by_cases hd : x.1 = y.1 ∧ x.2 = y.2
              · have HV := hid (HV1.out hd)
                rw [decide_eq_true hd] at heq
                clear hd
                go_wp2_with fail
                go_quiet (fail)
                have HBd := hid (below_drawn_of HBq.out nq)
                have s0 := cell_below HBd.out HY0.out
                have s1 := cell_below HBd.out HY1.out
                have sf := fun o => (HBd.out.frozen (p := ⟨w.heap.size + 1, o, none⟩) HYZ.out).trans (HYF.out o)
                generalize wr.drewN nq = wq at *
                go_wp2_with fail
                refine bodyPost_ret (v := .agg #[.int .i64 9, .int .i64 k3]) (by simp [results, Tryz.results9, go_sem, s0, s1]) rfl ⟨?_, ?_⟩
                · rw [HV.out]; rfl
                · exact put2_below (HB0.out.trans (HBd.out.mono HB0.out.size)) (by omega)
              · have HV := hid (HV2.out hd)
                rw [decide_eq_false hd] at heq
                clear hd
                go_wp2_with fail
                go_quiet (fail)
                go_wp2_with fail
                go_roundw
                case rel => exact ⟨k4 + 1, by have := HL4.out; omega, by go_num, HV, hid (below_drawn_of HBq.out _)⟩
                case measure => have := HL4.out; simp [intOf]; omega
            · have HV := hid (HY.out (noneB_cl HL3.out (fun j hj _ => HZ4.out j hj (by omega))))
              go_wp2_with fail
              go_roundw
              case rel => exact ⟨k3 + 1, by have := HL3.out; omega, by go_num, HV, HBq⟩
              case measure => have := HL3.out; simp [intOf]; omega
        · have HV := hid (HX3.out HXA.out (fun j hj => HZ3.out j (by omega)))
          go_wp2_with fail
          refine (fine_any _).mono ?_
          rintro e w3 ⟨rfl, hb⟩
          have HB3 := hid (HBr.out.trans (hb.mono HBr.out.size))
          clear hb
          have s0 := cell_below HB3.out HY0.out
          have s1 := cell_below HB3.out HY1.out
          have sf := fun o => (HB3.out.frozen (p := ⟨w.heap.size + 1, o, none⟩) HYZ.out).trans (HYF.out o)
          go_wp2_with fail
          refine bodyPost_ret (v := .agg #[.int .i64 0, .int .i64 (-1)]) (by simp [results, Tryz.results9, go_sem, s0, s1]) rfl ⟨?_, ?_⟩
          · rw [HV.out]; rfl
          · exact put2_below (HB0.out.trans (HB3.out.mono HB0.out.size)) (by omega)
/-- FileFault. -/
theorem ffault_any (p : ByteArray) (R X : List Bm) (v u : Value) (w : World) (hp : p.size < 999999) (F : Fl w R X v u) :
    Calls Tryz.prog 9 #[.agg #[.string p, v, u]] w fun e w' => e = .returned (faultV (fileF p R X)) ∧ Below w.heap.size w w' := by
  by_cases h : pathErr p.data.toList = 0
  · by_cases h2 : 20 < R.length ∨ 20 < X.length
    · exact ff_full p R X v u w hp F h h2
    · cases h3 : fstE (reqE p R) R.length with
      | some i => exact ff_req p R X v u i w hp F h h2 h3
      | none => exact ff_rest p R X v u w hp F h h2 h3
  · exact ff_path p R X v u w hp F h
end Ve
end Go.Proofs.YtjphlclhkaoipaaGreatDoor

/-
  What coded of the statements answers of an error with its own number: true; nothing old in memory turns.
-/
namespace Go.Proofs.YtjphlclhkaoipaaGreatDoor
open Go.RowKit Go.Extern.Stop Go.Stop Go.Extern
namespace Er

set_option maxHeartbeats 1000000 in
/-- coded, out of what plain.Code answers. -/
theorem coded_of (v : Value) (c at_ n : Int) (w : World) (hc : ∀ W, W = w → Calls Tryz.prog 21 #[v] W fun e w' => e = .returned (.tuple #[.int .i64 c, .int .i64 at_]) ∧ Below w.heap.size w w') (h1 : (c == n) = true) (h2 : (at_ == -1) = true) :
    Calls Tryz.prog 17 #[v, .int .i64 n] w fun e w' => e = .returned (.bool true) ∧ Below w.heap.size w w' := by
  have HC := hid hc
  clear hc
  go_enter Tryz.func17, Tryz.ntmps17
  go_wp2_with fail
  refine (HC.out _ rfl).mono ?_
  rintro e w1 ⟨rfl, hb⟩
  have HB := hid hb
  clear hb
  go_wp2_with fail
  go_ret
  exact ⟨rfl, HB.out⟩

theorem coded_nil (w : World) : Calls Tryz.prog 17 #[.nilIface, .int .i64 0] w fun e w' => e = .returned (.bool true) ∧ Below w.heap.size w w' :=
  coded_of .nilIface 0 (-1) 0 w (fun W hW => by rw [hW]; exact (code_nil w).mono fun e w' h => ⟨h.1, by rw [h.2]; exact Below.refl _ _⟩) rfl rfl
theorem coded_sen (A : Nat → Addr) (j : Nat) (w : World) (S : Sen w A) (hj : j < 10) : Calls Tryz.prog 17 #[.iface 200 (.pointer (some (A j))), .int .i64 ((j : Int) + 1)] w fun e w' => e = .returned (.bool true) ∧ Below w.heap.size w w' :=
  coded_of _ ((j : Int) + 1) (-1) ((j : Int) + 1) w (fun W hW => by rw [hW]; exact code_sen A j w S hj) (by simp) (by simp)
end Er
end Go.Proofs.YtjphlclhkaoipaaGreatDoor

/-
  What coded and faulted of the statements answer of an error with its own number and place: true; nothing old in memory turns.
-/
namespace Go.Proofs.YtjphlclhkaoipaaGreatDoor
open Go.RowKit
namespace Ve

theorem coded_A (A : Nat → Addr) (m : Int) (c : Nat) (w : World) (S : Te w A m) (hc : c ≤ 10) :
    Calls Tryz.prog 17 #[errA A c, .int .i64 (c : Nat)] w fun e w' => e = .returned (.bool true) ∧ Below w.heap.size w w' := by
  cases c with
  | zero => exact Er.coded_nil w
  | succ j => exact Er.coded_sen A j w S.sen (by omega)
/-- plain.Code of an error with its place, or without one. -/
theorem code_at (A : Nat → Addr) (m : Int) (x : Value) (c : Nat) (o : Option Nat) (w : World) (S : Te w A m) (h : ErrAt w A x c o) (hc : c ≤ 10) :
    Calls Tryz.prog 21 #[x] w fun e w' => e = .returned (.tuple #[.int .i64 (c : Nat), .int .i64 (atOf o)]) ∧ Below w.heap.size w w' := by
  cases o with
  | none =>
    have h : x = errA A c := h
    subst h
    cases c with
    | zero => exact (Er.code_nil w).mono fun e w' h => ⟨h.1, by rw [h.2]; exact Below.refl _ _⟩
    | succ j => exact Er.code_sen A j w S.sen (by omega)
  | some i =>
    obtain ⟨h0, b, rfl, h1, h2⟩ := h
    obtain ⟨j, rfl⟩ : ∃ j, c = j + 1 := ⟨c - 1, by omega⟩
    rw [errA_if A h0] at h2
    exact Er.code_fault b 0 i A j w S.sen (by omega) (lt_of_cell h1) h1 h2
set_option maxHeartbeats 1000000 in
theorem faulted_any (A : Nat → Addr) (m : Int) (x : Value) (r : Nat × Option Nat) (w : World) (S : Te w A m) (h : ErrAt w A x r.1 r.2) (hc : r.1 ≤ 10) :
    Calls Tryz.prog 7 #[x, faultV r] w fun e w' => e = .returned (.bool true) ∧ Below w.heap.size w w' := by
  obtain ⟨c, o⟩ := r
  have HB0 := hid ((Below.refl w.heap.size w).alloc (Nat.le_refl _) (.cells #[.int .i64 (c : Nat), .int .i64 (atOf o)] 35))
  have HC := hid (code_at A m x c o _ (S.below HB0.out) (h.below HB0.out) hc)
  unfold faultV
  simp only
  generalize atOf o = y at *
  generalize (c : Int) = z at *
  have e1 : (z == z) = true := beq_self_eq_true z
  have e2 : (y == y) = true := beq_self_eq_true y
  clear S h hc
  go_enter Tryz.func7, Tryz.ntmps7
  go_wp2_with fail
  refine HC.out.mono ?_
  rintro e w1 ⟨rfl, hb⟩
  obtain ⟨⟨r0, r1⟩, rz⟩ := res2 (hb.mono (by simp))
  have HB := hid (HB0.out.trans (hb.mono HB0.out.size))
  clear hb
  cases hz : (z == 0)
  all_goals
    go_wp2_with fail
    go_ret
    exact ⟨rfl, HB.out⟩
theorem modErr_err (p v : List UInt8) : modErr p v = 0 ∨ modErr p v = 1 ∨ modErr p v = 2 ∨ modErr p v = 4 := by
  unfold modErr
  by_cases h0 : pathErr p = 0
  · rw [if_pos h0]
    by_cases h1 : verErr v = 0
    · rw [if_pos h1]
      cases fitsB (nAt v 0) (pathN p)
      · right; right; right; rfl
      · left; rfl
    · rw [if_neg h1]
      rcases verErr_err v with h | h | h <;> omega
  · rw [if_neg h0]; exact pathErr_err p
theorem mErr_le (m : Bm) : mErr m ≤ 10 := by
  have := modErr_err m.1.data.toList m.2.data.toList
  unfold mErr; omega
theorem reqE_le (own : ByteArray) (L : List Bm) (i : Nat) : reqE own L i ≤ 10 := by
  unfold reqE
  split
  · omega
  · rename_i m _
    have := mErr_le m
    unfold reqW
    repeat' split
    all_goals omega
theorem exE_le (L : List Bm) (i : Nat) : exE L i ≤ 10 := by
  unfold exE
  split
  · omega
  · rename_i m _
    have := mErr_le m
    unfold exW
    repeat' split
    all_goals omega
theorem fileF_le (p : ByteArray) (R X : List Bm) : (fileF p R X).1 ≤ 10 := by
  have h1 := pathErr_err p.data.toList
  unfold fileF
  repeat' split
  all_goals simp only
  all_goals first
    | omega
    | exact reqE_le _ _ _
    | exact exE_le _ _
end Ve
end Go.Proofs.YtjphlclhkaoipaaGreatDoor

/-
  What copyCheck and WriteString of strings.Builder do at this program: the builder is the call's own.
-/
namespace Go.Proofs.YtjphlclhkaoipaaGreatDoor
open Go.RowKit
namespace Ve

theorem bSize : (Tryz.prog.info? 65).map (·.size) = some 2 := by kernel_rfl
theorem bLies : liesAt Tryz.prog Tryz.prog.depth 65 (2 / Tryz.prog.cellsOf 65) 0 65 1 = true := by kernel_rfl
theorem bByte : (Tryz.prog.info? 5).map (fun i => (i.zero, i.size, i.bytes)) = some (some (.int .u8 0), 1, 1) := by kernel_rfl

set_option maxHeartbeats 1000000 in
set_option maxRecDepth 100000 in
theorem copy_used (b : Nat) (w : World) (h0 : w.cell? ⟨b, 0, none⟩ = some (.pointer (some ⟨b, 0, none⟩))) :
    Calls Tryz.prog 58 #[.pointer (some ⟨b, 0, none⟩)] w fun e w' => e = .returned (.tuple #[]) ∧ w' = w := by
  obtain ⟨j, hj, _⟩ := Option.map_eq_some_iff.1 bSize
  go_enter Tryz.func58, Tryz.ntmps58
  go_wp2
  rw [Lib.run_neq_ptr_same w _ Tryz.underlying62 hj]
  go_wp2
  go_end0
  exact ⟨rfl, rfl⟩
set_option maxHeartbeats 1000000 in
set_option maxRecDepth 100000 in
theorem copy_fresh (b : Nat) (w : World) (h0 : w.cell? ⟨b, 0, none⟩ = some (.pointer none)) (hsh : w.shape? b = some (65, 2)) (hfz : w.frozen? ⟨b, 0, none⟩ = false) :
    Calls Tryz.prog 58 #[.pointer (some ⟨b, 0, none⟩)] w fun e w' => e = .returned (.tuple #[]) ∧ w' = w.setCell ⟨b, 0, none⟩ (.pointer (some ⟨b, 0, none⟩)) := by
  obtain ⟨j, hj, hjs⟩ := Option.map_eq_some_iff.1 bSize
  have hnp := fun W => Lib.run_neq_ptr_same (P := Tryz.prog) W ⟨b, 0, none⟩ Tryz.underlying62 hj
  go_enter Tryz.func58, Tryz.ntmps58
  go_wp2
  rw [Lib.run_to_unsafe w ⟨b, 0, none⟩ Tryz.underlying62 Tryz.underlying111 hj (by rw [hjs]; decide) hsh (Nat.zero_lt_succ 1)]
  simp only [Result.andThen]
  rw [Oper.upon_value]
  go_wp2
  rw [run_callFunc_extern Tryz.func92 (by kernel_rfl) (by kernel_rfl) (by kernel_rfl) (e := Extern.AbiNoEscape.same) (by kernel_rfl)]
  rw [Lib.run_noEscape]
  simp only [Result.andThen]
  rw [Oper.upon_value]
  go_wp2
  rw [Lib.run_from_unsafe w ⟨b, 0, none⟩ Tryz.underlying111 Tryz.underlying62 hj hsh bLies]
  simp only [Result.andThen]
  rw [Oper.upon_value]
  go_wp2
  go_end0
  exact ⟨rfl, rfl⟩
theorem copy_any (B b : Nat) (bs : List Value) (w : World) (h : Lib.IsBuilder 65 5 B b bs w) :
    Calls Tryz.prog 58 #[.pointer (some ⟨b, 0, none⟩)] w fun e w' => e = .returned (.tuple #[]) ∧ (Lib.BuilderAt 65 5 B b (.pointer (some ⟨b, 0, none⟩)) bs w' ∧ Below B w w') := by
  rcases h with h | h
  · refine (copy_fresh b w h.cell0 h.shape h.frozen0).mono ?_
    rintro e w' ⟨rfl, rfl⟩
    exact ⟨rfl, h.used _, (Below.refl B w).setCell (p := ⟨b, 0, none⟩) h.1 _⟩
  · refine (copy_used b w h.cell0).mono ?_
    rintro e w' ⟨rfl, rfl⟩
    exact ⟨rfl, h, Below.refl B _⟩
set_option maxHeartbeats 2000000 in
set_option maxRecDepth 100000 in
theorem write_any (B b : Nat) (bs : List Value) (s : ByteArray) (w : World) (h : Lib.IsBuilder 65 5 B b bs w) (hlen : bs.length + s.size ≤ 140737488355328) (hBw : B ≤ w.heap.size) :
    Calls Tryz.prog 32 #[.pointer (some ⟨b, 0, none⟩), .string s] w fun e w' => e = .returned (.tuple #[.int .i64 s.size, .nilIface]) ∧ (Lib.BuilderAt 65 5 B b (.pointer (some ⟨b, 0, none⟩)) (bs ++ Lib.strCells s) w' ∧ Below B w w') := by
  obtain ⟨i0, hi, hz0, hz1, hz2⟩ := info_parts bByte
  go_enter Tryz.func32, Tryz.ntmps32
  go_wp2_with (go_at_call 58; refine (copy_any B b bs _ h).mono ?_)
  rintro e w1 ⟨rfl, h1, hb1⟩
  obtain ⟨hB, v, hbk, hown, hne⟩ := h1
  have c0 : w1.cell? ⟨b, 0, none⟩ = some (.pointer (some ⟨b, 0, none⟩)) := by rw [Lib.cell_of_heap hbk]; rfl
  have c1 : w1.cell? ⟨b, 1, none⟩ = some v := by rw [Lib.cell_of_heap hbk]; rfl
  go_wp2_with (at_builtin; refine Lib.wpList_append_own_string _ rfl _ _ 63 9 rfl B 5 i0 Tryz.underlying63 Tryz.underlying9 hi hz0 hz1 hz2 _ _ _ rfl hown s rfl ?c3 ?c4 ?c5 ?_)
  case c3 => unfold maxLen; omega
  case c4 => omega
  case c5 => have := hb1.size; omega
  intro v' w2 hown' hgrow _
  have hlt : b < w1.heap.size := by
    rcases Nat.lt_or_ge b w1.heap.size with h' | h'
    · exact h'
    · simp [Array.getElem?_eq_none h'] at hbk
  have hb2 : w2.heap[b]? = some (.cells #[.pointer (some ⟨b, 0, none⟩), v] 65 (0, 0)) := by
    rw [hgrow.block b hlt (fun e => hne e.symm)]
    exact hbk
  have d0 : w2.cell? ⟨b, 0, none⟩ = some (.pointer (some ⟨b, 0, none⟩)) := by rw [Lib.cell_of_heap hb2]; rfl
  have d1 : w2.cell? ⟨b, 1, none⟩ = some v := by rw [Lib.cell_of_heap hb2]; rfl
  have f1 : w2.frozen? ⟨b, 1, none⟩ = false := Lib.frozen_of_heap hb2 1
  obtain ⟨ao, n', cap, rfl⟩ : ∃ ao n' cap, v' = .slice ao n' cap := by
    rcases hown'.2 with ⟨hv, _⟩ | ⟨g, cap, cur, hv, _⟩
    · exact ⟨_, _, _, hv⟩
    · exact ⟨_, _, _, hv⟩
  go_wp2
  go_ret2
  refine ⟨rfl, ?_, ?_⟩
  · exact Lib.BuilderAt.put (T := 65) (e := 5) hB hb2 (bs' := bs ++ Lib.strCells s) (by simpa [Lib.strCells_length] using hown') (by decide)
  · exact (hb1.grown hgrow (by have := hb1.size; omega) (fun k hk => (hown.lt k hk).1)).setCell (p := ⟨b, 1, none⟩) hB _
end Ve
end Go.Proofs.YtjphlclhkaoipaaGreatDoor
