/-
  Ten OrdA
-/
import Derived.Test.YtiebgeamfblbdaaGreatDoorRows
import Derived.Test.YtiebgeamfblbdaaGreatDoorFb2
import Derived.Test.YtiebgeamfblbdaaGreatDoorFb29
import Derived.Test.YtiebgeamfblbdaaGreatDoorFb11
import Derived.LaidHandle
import Derived.Stop.LaidTwo
import Derived.Shelf.Vars
import Derived.Carry
import Derived.ProofKit
import Derived.LaidMore
import Derived.Stop.Joined
import Derived.Test.YtiebgeamfblbdaaGreatDoorFb12
namespace Go.Proofs.YtiebgeamfblbdaaGreatDoor
open Go.ChangeShapes Go.WideShapes Go.ChangeAt Go.RowKit
namespace Ve
theorem etName : Tryz.prog.globalNamed "errors.errorType" = some 8 := by kernel_rfl
def rtWord : String := match (Rows.laid_errors_errorType : DataW Unit) with | .iface s _ => s | _ => ""
theorem rtName : (Tryz.prog.cutTypes.find? (·.1 == rtWord)).map (·.2) = some 141 := by kernel_rfl
theorem oneRow : ((List.range 198).filter fun t => Tryz.prog.rowNamed t [101, 114, 114, 111, 114]) = [31] := by kernel_rfl
theorem nTypes : Tryz.prog.types.size = 198 := by kernel_rfl
theorem cellsS : Tryz.prog.cellsOf 187 = 1 := by kernel_rfl
theorem cellsStr : Tryz.prog.cellsOf 9 = 1 := by kernel_rfl
theorem star : "*" ++ "errors.errorString" = "*errors.errorString" := by decide
theorem rowS (u : TypeId) (h : Tryz.prog.typeName? 3 u = some "*errors.errorString") : u = 169 :=
  typeName_ptr_named (nm := "errors.errorString") (by rw [star]; kernel_rfl) (by kernel_rfl) (by decide) u (by rw [star]; exact h)
def tens : List (String × Nat × List UInt8) :=
  [("pewholder/api.ErrText", 6, [112, 101, 119, 104, 111, 108, 100, 101, 114, 58, 32, 116, 101, 120, 116]),
   ("pewholder/api.ErrBound", 1, [112, 101, 119, 104, 111, 108, 100, 101, 114, 58, 32, 98, 111, 117, 110, 100]),
   ("pewholder/api.ErrShape", 3, [112, 101, 119, 104, 111, 108, 100, 101, 114, 58, 32, 115, 104, 97, 112, 101]),
   ("pewholder/api.ErrMajor", 7, [112, 101, 119, 104, 111, 108, 100, 101, 114, 58, 32, 109, 97, 106, 111, 114]),
   ("pewholder/api.ErrNone", 2, [112, 101, 119, 104, 111, 108, 100, 101, 114, 58, 32, 110, 111, 110, 101]),
   ("pewholder/api.ErrFull", 0, [112, 101, 119, 104, 111, 108, 100, 101, 114, 58, 32, 102, 117, 108, 108]),
   ("pewholder/api.ErrOrder", 4, [112, 101, 119, 104, 111, 108, 100, 101, 114, 58, 32, 111, 114, 100, 101, 114]),
   ("pewholder/api.ErrClash", 5, [112, 101, 119, 104, 111, 108, 100, 101, 114, 58, 32, 99, 108, 97, 115, 104])]
theorem tens_named : ∀ x, x ∈ tens → Tryz.prog.globalNamed x.1 = some x.2.1 ∧ (Tryz.prog.globals[x.2.1]?).map (·.type) = some 31 := by
  have h : (tens.all fun x => Tryz.prog.globalNamed x.1 == some x.2.1 && (Tryz.prog.globals[x.2.1]?).map (·.type) == some 31) = true := by kernel_rfl
  intro x hx
  simpa using List.all_eq_true.1 h x hx
theorem te_of {W : World} {m : Int} (rest : List (String × DataW Unit)) (hl : laidMet Tryz.prog ((tens.map fun x => (x.1, DataW.iface "*errors.errorString" (.ptr (.agg [.lit (.string x.2.2)])))) ++ rest) W)
    (hh : handlesMet Tryz.prog [("errors.errorType", Rows.laid_errors_errorType)] W) (hm0 : W.cell? ⟨9, 0, none⟩ = some (.int .i64 m)) : ∃ A, Te W A m := by
  obtain ⟨ps, hl, hnd, hrows⟩ := hl
  obtain ⟨name, u, ty, e1, e2, e3, e4, e5⟩ := hh _ (List.mem_singleton.2 rfl)
  have en : name = [101, 114, 114, 111, 114] := (Option.some.inj e1).symm
  subst en
  obtain rfl := Option.some.inj (rtName.symm.trans e2)
  have hm : ty ∈ (List.range 198).filter fun t => Tryz.prog.rowNamed t [101, 114, 114, 111, 114] := List.mem_filter.2 ⟨List.mem_range.2 (by rw [← nTypes]; exact e3), e4⟩
  rw [oneRow] at hm
  obtain rfl := List.mem_singleton.1 hm
  have hhd : typeHandle Tryz.prog 31 = .pointer (some ⟨12, 31, none⟩) := by kernel_rfl
  rw [hhd] at e5
  have het : W.cell? ⟨8, 0, none⟩ = some (.iface 141 (.agg #[.pointer (some ⟨12, 31, none⟩)])) := by simpa using World.var?_cell etName e5 0
  obtain ⟨al, hlen, hsub, hall⟩ := Er.sens_rest Tryz.underlying31 rowS Tryz.underlying169 Tryz.underlying187 rfl rfl Tryz.underlying9 cellsS cellsStr rest tens ps hl tens_named hrows
  have hten : al.length = 8 := hlen
  refine ⟨fun k => al.getD (if k < 5 then k else k - 1) ⟨0, 0, none⟩, ?_⟩
  have get : ∀ k, k < 8 → al[k]? = some (al.getD k ⟨0, 0, none⟩) := fun k hk => by
    rw [List.getD_eq_getElem?_getD, List.getElem?_eq_getElem (by omega)]; rfl
  have c := fun k x (hx : tens[k]? = some x) (hk : k < 8) => hall k x _ hx (get k hk)
  refine ⟨⟨(c 0 _ rfl (by omega)).1, (c 1 _ rfl (by omega)).1, (c 2 _ rfl (by omega)).1, (c 3 _ rfl (by omega)).1, (c 4 _ rfl (by omega)).1, (c 5 _ rfl (by omega)).1, (c 6 _ rfl (by omega)).1, (c 7 _ rfl (by omega)).1, het⟩, ⟨(c 0 _ rfl (by omega)).1, (c 1 _ rfl (by omega)).1, (c 0 _ rfl (by omega)).2, (c 1 _ rfl (by omega)).2, ?_, hm0⟩⟩
  have := Er.unlike hsub hnd (i := 0) (j := 1) (by omega) (by omega) (by omega)
  intro e
  apply this
  have hi' := get 0 (by omega)
  have hj' := get 1 (by omega)
  rw [List.getElem?_eq_getElem (by omega)] at hi' hj'
  rw [Option.some.inj hi', Option.some.inj hj']
  exact e
theorem ml_of {W : World} (hsh : W.ShapedOpen Tryz.prog) : ∃ m, W.cell? ⟨9, 0, none⟩ = some (.int .i64 m) :=
  cell_of_shapedOpen_int (P := Tryz.prog) (g := 9) (t := 3) (zero := #[.int .i64 0]) hsh (of_decide_eq_true (by kernel_rfl)) (by kernel_rfl) rfl (by kernel_rfl) (by kernel_rfl) Tryz.underlying3
end Ve
end Go.Proofs.YtiebgeamfblbdaaGreatDoor
namespace Go.Proofs.YtiebgeamfblbdaaGreatDoor
open Go.RowKit
namespace Ve
theorem below_drew {w w' : World} (h : Below w.heap.size w w') (n : Nat) : Below w.heap.size w (w'.drewN n) := h.trans ((below_drawn w' n).mono h.size)
structure Bw (B : Nat) (w w' : World) : Prop where
  be : Below B w w'
  dr : w.drawn ≤ w'.drawn
theorem Bw.refl (B : Nat) (w : World) : Bw B w w := ⟨Below.refl _ _, Nat.le_refl _⟩
theorem Bw.trans {B : Nat} {a b c : World} (h : Bw B a b) (k : Bw B b c) : Bw B a c := ⟨h.be.trans k.be, Nat.le_trans h.dr k.dr⟩
theorem Bw.mono {B B' : Nat} {w w' : World} (h : Bw B w w') (hB : B' ≤ B) : Bw B' w w' := ⟨h.be.mono hB, h.dr⟩
theorem Bw.size {B : Nat} {w w' : World} (h : Bw B w w') : w.heap.size ≤ w'.heap.size := h.be.size
theorem Bw.alloc {B : Nat} {w w' : World} (h : Bw B w w') (hB : B ≤ w'.heap.size) (o : Obj) : Bw B w (w'.alloc o) := ⟨h.be.alloc hB o, h.dr⟩
theorem bw_drew {w w' : World} (h : Bw w.heap.size w w') (n : Nat) : Bw w.heap.size w (w'.drewN n) := ⟨below_drew h.be n, Nat.le_trans h.dr (Nat.le_add_right _ _)⟩
theorem p1_any (s t : ByteArray) (A B : Nat) (w : World) (a0 : w.cell? ⟨A, 0, none⟩ = some (.string s)) (b0 : w.cell? ⟨B, 0, none⟩ = some (.string t)) :
    Calls Tryz.prog 138 #[.pointer (some ⟨A, 0, none⟩), .pointer (some ⟨B, 0, none⟩)] w fun e w' => e = .returned (.int .i64 (Lib.compareInt (s.size : Int) (t.size : Int))) ∧ w' = w := by
  have HC := hid (Tryz.cmp_Compare_int (s.size : Int) (t.size : Int) w)
  go_enter Tryz.func138, Tryz.ntmps138
  go_wp2_with fail
  refine HC.out.mono ?_
  rintro e w' ⟨rfl, rfl⟩
  go_wp2_with fail
  go_ret
  exact ⟨rfl, rfl⟩
theorem p2_any (s t : ByteArray) (A B : Nat) (w : World) (a0 : w.cell? ⟨A, 0, none⟩ = some (.string s)) (b0 : w.cell? ⟨B, 0, none⟩ = some (.string t)) :
    Calls Tryz.prog 139 #[.pointer (some ⟨A, 0, none⟩), .pointer (some ⟨B, 0, none⟩)] w fun e w' => e = .returned (.int .i64 (Lib.compareBytes s.data.toList t.data.toList)) ∧ w' = w := by
  have HC := hid (Tryz.strings_Compare s t w)
  go_enter Tryz.func139, Tryz.ntmps139
  go_wp2_with fail
  refine HC.out.mono ?_
  rintro e w' ⟨rfl, rfl⟩
  go_wp2_with fail
  go_ret
  exact ⟨rfl, rfl⟩
set_option maxHeartbeats 2000000 in
theorem first_two (k1 k2 : Int) (A B F : Nat) (w : World)
    (h1 : Calls Tryz.prog 138 #[.pointer (some ⟨A, 0, none⟩), .pointer (some ⟨B, 0, none⟩)] w fun e w' => e = .returned (.int .i64 k1) ∧ w' = w)
    (h2 : Calls Tryz.prog 139 #[.pointer (some ⟨A, 0, none⟩), .pointer (some ⟨B, 0, none⟩)] w fun e w' => e = .returned (.int .i64 k2) ∧ w' = w)
    (f0 : w.cell? ⟨F, 0, none⟩ = some (.func (.func 138) #[] #[.pointer (some ⟨A, 0, none⟩), .pointer (some ⟨B, 0, none⟩)])) (f1 : w.cell? ⟨F, 1, none⟩ = some (.func (.func 139) #[] #[.pointer (some ⟨A, 0, none⟩), .pointer (some ⟨B, 0, none⟩)])) :
    Calls Tryz.prog 107 #[.slice (some ⟨F, 0, none⟩) 2 2] w fun e w' => e = .returned (.int .i64 (fst k1 k2)) ∧ w' = w := by
  have HX := hid h1
  have HY := hid h2
  clear h1 h2
  by_cases z1 : k1 = 0
  · subst z1
    by_cases z2 : k2 = 0
    · subst z2
      go_enter Tryz.func107, Tryz.ntmps107
      go_wp2_with fail
      refine wp_loop_rounds 3 ?_
      rw [rounds_succ]
      go_wp2_with fail
      refine HX.out.mono ?_
      rintro e w' ⟨rfl, rfl⟩
      go_wp2_with fail
      rw [rounds_succ]
      go_wp2_with fail
      refine HY.out.mono ?_
      rintro e w' ⟨rfl, rfl⟩
      go_wp2_with fail
      rw [rounds_succ]
      go_wp2_with fail
      go_ret
      exact ⟨rfl, rfl⟩
    · have b2 : (k2 == 0) = false := beq_eq_false_iff_ne.2 z2
      have HF := hid (fst0 k2)
      clear z2
      go_enter Tryz.func107, Tryz.ntmps107
      go_wp2_with fail
      refine wp_loop_rounds 2 ?_
      rw [rounds_succ]
      go_wp2_with fail
      refine HX.out.mono ?_
      rintro e w' ⟨rfl, rfl⟩
      go_wp2_with fail
      rw [rounds_succ]
      go_wp2_with fail
      refine HY.out.mono ?_
      rintro e w' ⟨rfl, rfl⟩
      go_wp2_with fail
      go_ret
      exact ⟨ret_int HF.out.symm, rfl⟩
  · have b1 : (k1 == 0) = false := beq_eq_false_iff_ne.2 z1
    have HF := hid (fst_ne k2 z1)
    clear z1
    go_enter Tryz.func107, Tryz.ntmps107
    go_wp2_with fail
    refine wp_loop_rounds 1 ?_
    rw [rounds_succ]
    go_wp2_with fail
    refine HX.out.mono ?_
    rintro e w' ⟨rfl, rfl⟩
    go_wp2_with fail
    go_ret
    exact ⟨ret_int HF.out.symm, rfl⟩
theorem three' (w : World) (A B C : Array Value) (T U : TypeId) (j : Nat) :
    (((w.alloc (.cells A T)).alloc (.cells B T)).alloc (.cells C U)).cell? ⟨w.heap.size, j, none⟩ = A[j]? ∧ (((w.alloc (.cells A T)).alloc (.cells B T)).alloc (.cells C U)).cell? ⟨w.heap.size + 1, j, none⟩ = B[j]? ∧
    (((w.alloc (.cells A T)).alloc (.cells B T)).alloc (.cells C U)).cell? ⟨w.heap.size + 1 + 1, j, none⟩ = C[j]? := three w A B C T U j
set_option maxHeartbeats 2000000 in
theorem cpart_bw (s t : ByteArray) (w : World) (hs : s.size ≤ maxLen) (ht : t.size ≤ maxLen) :
    Calls Tryz.prog 130 #[.string s, .string t] w fun e w' => e = .returned (.int .i64 (ordPart s.data.toList t.data.toList)) ∧ Bw w.heap.size w w' := by
  have hmf : ∀ (fn : Fn) (first cap : Array Value) (w : World), (Instr.makeFunc fn first cap).run Tryz.prog w = .ok (.func fn first cap) w := fun _ _ _ _ => rfl
  have HO := hid (show ordPart s.data.toList t.data.toList = if digs s.data.toList then (if digs t.data.toList then fst (Lib.compareInt (s.size : Int) (t.size : Int)) (Lib.compareBytes s.data.toList t.data.toList) else -1) else if digs t.data.toList then 1 else Lib.compareBytes s.data.toList t.data.toList by
    unfold ordPart; rw [len_eq, len_eq])
  have HS := hid (fun W => digits_any s W hs)
  have HT := hid (fun W => digits_any t W ht)
  have HC := hid (fun W => Tryz.strings_Compare s t W)
  have HB := hid (((Bw.refl w.heap.size w).alloc (Nat.le_refl _) (.cells #[.string s] 9)).alloc (by simp) (.cells #[.string t] 9))
  clear hs ht
  cases h1 : digs s.data.toList
  all_goals cases h2 : digs t.data.toList
  all_goals rw [h1] at HS HO
  all_goals rw [h2] at HT HO
  all_goals clear h1 h2
  · go_enter Tryz.func130, Tryz.ntmps130
    go_wp2_with fail
    go_quiet (first
      | (go_at_call_of 73 (Value.string s); refine Calls.quiet_of_same (HS.out _))
      | (go_at_call_of 73 (Value.string t); refine Calls.quiet_of_same (HT.out _)))
    go_wp2_with fail
    refine (HC.out _).mono ?_
    rintro e w' ⟨rfl, rfl⟩
    go_wp2_with fail
    go_ret
    exact ⟨ret_int (by rw [HO.out]; rfl), bw_drew HB.out _⟩
  · go_enter Tryz.func130, Tryz.ntmps130
    go_wp2_with fail
    go_quiet (first
      | (go_at_call_of 73 (Value.string s); refine Calls.quiet_of_same (HS.out _))
      | (go_at_call_of 73 (Value.string t); refine Calls.quiet_of_same (HT.out _)))
    go_wp2_with fail
    go_ret
    exact ⟨ret_int (by rw [HO.out]; rfl), bw_drew HB.out _⟩
  · go_enter Tryz.func130, Tryz.ntmps130
    go_wp2_with fail
    go_quiet (first
      | (go_at_call_of 73 (Value.string s); refine Calls.quiet_of_same (HS.out _))
      | (go_at_call_of 73 (Value.string t); refine Calls.quiet_of_same (HT.out _)))
    go_wp2_with fail
    go_ret
    exact ⟨ret_int (by rw [HO.out]; rfl), bw_drew HB.out _⟩
  · go_enter Tryz.func130, Tryz.ntmps130
    go_wp2_with fail
    go_quiet (first
      | (go_at_call_of 73 (Value.string s); refine Calls.quiet_of_same (HS.out _))
      | (go_at_call_of 73 (Value.string t); refine Calls.quiet_of_same (HT.out _)))
    go_wp2_with fail
    refine (first_two (Lib.compareInt (s.size : Int) (t.size : Int)) (Lib.compareBytes s.data.toList t.data.toList) w.heap.size (w.heap.size + 1) (w.heap.size + 1 + 1) _ (p1_any s t _ _ _ ?_ ?_) (p2_any s t _ _ _ ?_ ?_) ?_ ?_).mono ?_
    · exact (three' w _ _ _ _ _ 0).1.trans rfl
    · exact (three' w _ _ _ _ _ 0).2.1.trans rfl
    · exact (three' w _ _ _ _ _ 0).1.trans rfl
    · exact (three' w _ _ _ _ _ 0).2.1.trans rfl
    · exact (three' w _ _ _ _ _ 0).2.2.trans rfl
    · exact (three' w _ _ _ _ _ 1).2.2.trans rfl
    rintro e w' ⟨rfl, rfl⟩
    go_wp2_with fail
    go_ret
    exact ⟨ret_int (by rw [HO.out]; rfl), (bw_drew HB.out nq).alloc (by simp [World.drewN]; omega) _⟩
end Ve
end Go.Proofs.YtiebgeamfblbdaaGreatDoor
