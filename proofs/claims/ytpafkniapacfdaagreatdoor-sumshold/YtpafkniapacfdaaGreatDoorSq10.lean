
import Derived.Test.YtpafkniapacfdaaGreatDoorSq9
import Derived.Test.YtpafkniapacfdaaGreatDoorSq3
import Derived.Test.YtpafkniapacfdaaGreatDoorSq8
import Derived.Lib.ItoaMem
import Derived.Test.YtpafkniapacfdaaGreatDoorRows
import Derived.Test.YtpafkniapacfdaaGreatDoorSq2
import Derived.LaidHandle
import Derived.Stop.LaidTwo
import Derived.Shelf.Vars
import Derived.Carry
import Derived.ProofKit
import Derived.LaidMore
import Derived.Stop.Joined
import Derived.Test.YtpafkniapacfdaaGreatDoorSq7
namespace Go.Proofs.YtpafkniapacfdaaGreatDoor
open Go.RowKit
namespace Ve
def ncode (p : List UInt8) : Nat := (num p).2
theorem numsErr_ncode (ps : List (List UInt8)) : numsErr ps = worst 0 (ps.map ncode) := numsErr_worst ps
end Ve
end Go.Proofs.YtpafkniapacfdaaGreatDoor


namespace Go.Proofs.YtpafkniapacfdaaGreatDoor
open Go.RowKit Go.Shelf Go.Sort
namespace Ve
theorem holds_zero0 (w : World) (T : TypeId) (nd : Nat) (hs : nd ≤ 24) : Holds (fun (b : UInt8) => Value.int .u8 (b.toNat : Int)) (w.alloc (.cells Lib.zeros24 T)) w.heap.size 0 (Array.replicate nd (0 : UInt8)) := fun j hj => by
  have hj' : j < nd := by simpa using hj
  refine ⟨?_, World.frozen?_alloc_new _ _ _ _⟩
  rw [World.cell?_alloc_new, Lib.zeros24_at _ (by omega), getElem!_pos _ j hj]
  simp
theorem fin_pos0 (w : World) (o : Obj) (dk : Array UInt8) (k : Nat) : ∃ os, (putRow (fun (b : UInt8) => Value.int .u8 (b.toNat : Int)) (w.alloc o) w.heap.size 0 dk).drewN k = grow (w.drewN k) os := by
  rw [alloc_eq_grow]
  obtain ⟨os', _, e⟩ := putRow_grow_new (fun (b : UInt8) => Value.int .u8 (b.toNat : Int)) w #[o] w.heap.size 0 dk (Nat.le_refl _)
  exact ⟨os', by rw [e]; rfl⟩
set_option maxHeartbeats 6400000 in
set_option maxRecDepth 100000 in
theorem fmtUi_any (u : Nat) (hu : u ≤ 4294967295) (w : World) (htab : Lib.TabIs Tryz.prog w powName .u64 Lib.pow10Tab) :
    Calls Tryz.prog 110 #[.int .u64 (u : Nat), .int .i64 10] w fun e w' => e = .returned (.string (⟨(Lib.decDigits u).toArray⟩ : ByteArray)) ∧ ∃ k os, w' = grow (w.drewN k) os := by
  by_cases hs : u < 100
  · have hsI : (u : Int) < 100 := by omega
    have hw : wrap64 (u : Int) = (u : Int) := IntWalk.wrap64_in _ (by omega)
    go_enter Tryz.func110, Tryz.ntmps110
    go_wp2_with fail
    refine (Tryz.internal_strconv_small u hs _).mono ?_
    rintro e w' ⟨rfl, rfl⟩
    go_wp2_with fail
    go_ret
    exact ⟨rfl, 0, #[], by simp [World.drewN_zero]⟩
  · have hsI : ¬ (u : Int) < 100 := by omega
    have hu1 : 1 ≤ u := by omega
    have hu64 : u < 18446744073709551616 := by omega
    have hnd20 : Lib.nDigits u ≤ 20 := by have := Lib.numDigits_eq u hu1 hu64; split at this <;> omega
    have hal : Tryz.prog.arrayLen 204 = 24 := by simp [Program.arrayLen, Tryz.underlying204]
    have hsl1 : ∀ W, (Instr.sliceAt 204 (.pointer (some ⟨w.heap.size, 0, none⟩)) none (some (.int .i64 (Lib.nDigits u : Int))) none).run Tryz.prog W = .ok (.slice (some ⟨w.heap.size, 0, none⟩) (Lib.nDigits u) 24) W := fun W => by
      rw [run_sliceAt_array_h W 204 ⟨w.heap.size, 0, none⟩ (by simp [Program.arrayLen, Program.elem, Tryz.underlying204]) .i64 (Lib.nDigits u : Int) (by omega) (by rw [hal]; omega)]
      go_simp
    have hH0 := holds_zero0 w 204 (Lib.nDigits u) (by omega)
    have hfmt := Tryz.internal_strconv_formatBase10 w.heap.size 0 24 u (Array.replicate (Lib.nDigits u) 0) (w.alloc (.cells Lib.zeros24 204)) hH0 (by rw [Array.size_replicate]; exact Lib.lt_pow_nDigits u) hu64 (by rw [Array.size_replicate]; omega)
    rw [Array.size_replicate] at hfmt
    have HH0 := Lib.hid hH0
    have HF := hid hfmt
    have HN := hid (Tryz.internal_strconv_numDigits u hu1 hu64 _ (Lib.tabIs_alloc htab (.cells Lib.zeros24 204)))
    clear hH0 hal hfmt htab hs
    go_enter Tryz.func110, Tryz.ntmps110
    go_wp2_with fail
    refine HN.out.mono ?_
    rintro e w' ⟨rfl, rfl⟩
    go_wp2_with fail
    refine HF.out.mono ?_
    rintro e w' ⟨rfl, k, v', dk, rfl, hF⟩
    have hcv : (convert 77 9 (.slice (some ⟨w.heap.size, 0, none⟩) (Lib.nDigits u) 24)).run Tryz.prog ((putRow (fun (b : UInt8) => Value.int .u8 (b.toNat : Int)) (w.alloc (.cells Lib.zeros24 204)) w.heap.size 0 dk).drewN k) = .ok (.string ⟨(Lib.decDigits u).toArray⟩) ((putRow (fun (b : UInt8) => Value.int .u8 (b.toNat : Int)) (w.alloc (.cells Lib.zeros24 204)) w.heap.size 0 dk).drewN k) := by
      have h := run_convert_bytes_back (P := Tryz.prog) ((putRow (fun (b : UInt8) => Value.int .u8 (b.toNat : Int)) (w.alloc (.cells Lib.zeros24 204)) w.heap.size 0 dk).drewN k) 77 9 5 ⟨w.heap.size, 0, none⟩ 24 (Lib.decDigits u) Tryz.underlying77 Tryz.underlying5 Tryz.underlying9 (fun j hj => by
        rw [Lib.row_is_numeral hF j hj, Lib.add_plain, World.cell?_drewN]
        exact cell?_putRow (fun (b : UInt8) => Value.int .u8 (b.toNat : Int)) _ w.heap.size 0 _ dk HH0.out (by rw [hF.size, Array.size_replicate]) j (by rw [hF.size]; rw [Lib.decDigits_length] at hj; exact hj))
      rw [Lib.decDigits_length] at h
      exact h
    have HF0 := hid (fin_pos0 w (.cells Lib.zeros24 204) dk k)
    clear hF
    generalize (putRow (fun (b : UInt8) => Value.int .u8 (b.toNat : Int)) (w.alloc (.cells Lib.zeros24 204)) w.heap.size 0 dk).drewN k = W at *
    go_wp2_with fail
    go_ret
    exact ⟨rfl, k, HF0.out⟩
theorem fmtU_any (u : Nat) (hu : u ≤ 4294967295) (w : World) (htab : Lib.TabIs Tryz.prog w powName .u64 Lib.pow10Tab) :
    Calls Tryz.prog 73 #[.int .u64 (u : Nat), .int .i64 10] w fun e w' => e = .returned (.string (⟨(Lib.decDigits u).toArray⟩ : ByteArray)) ∧ Below w.heap.size w w' := by
  have HF := hid (fmtUi_any u hu w htab)
  clear htab
  go_enter Tryz.func73, Tryz.ntmps73
  go_wp2_with fail
  refine HF.out.mono ?_
  rintro e w' ⟨rfl, k, os, rfl⟩
  have HB := hid (below_grow w k os)
  generalize grow (w.drewN k) os = W at *
  go_wp2_with fail
  go_ret
  exact ⟨rfl, HB.out⟩
end Ve
end Go.Proofs.YtpafkniapacfdaaGreatDoor


namespace Go.Proofs.YtpafkniapacfdaaGreatDoor
open Go.ChangeShapes Go.WideShapes Go.ChangeAt Go.RowKit
namespace Ve
theorem etName : Tryz.prog.globalNamed "errors.errorType" = some 10 := by kernel_rfl
def rtWord : String := match (Rows.laid_errors_errorType : DataW Unit) with | .iface s _ => s | _ => ""
theorem rtName : (Tryz.prog.cutTypes.find? (·.1 == rtWord)).map (·.2) = some 212 := by kernel_rfl
theorem oneRow : ((List.range 331).filter fun t => Tryz.prog.rowNamed t [101, 114, 114, 111, 114]) = [30] := by kernel_rfl
theorem nTypes : Tryz.prog.types.size = 331 := by kernel_rfl
theorem cellsS : Tryz.prog.cellsOf 293 = 1 := by kernel_rfl
theorem cellsStr : Tryz.prog.cellsOf 9 = 1 := by kernel_rfl
theorem star : "*" ++ "errors.errorString" = "*errors.errorString" := by decide
theorem rowS (u : TypeId) (h : Tryz.prog.typeName? 3 u = some "*errors.errorString") : u = 291 :=
  typeName_ptr_named (nm := "errors.errorString") (by rw [star]; kernel_rfl) (by kernel_rfl) (by decide) u (by rw [star]; exact h)
theorem gPt : (Tryz.prog.globals[(11 : Nat)]?).map (·.type) = some 249 := by kernel_rfl
theorem cellsU : Tryz.prog.cellsOf 122 = 1 := by kernel_rfl
theorem cellsPow : Tryz.prog.cellsOf 249 = 20 := by kernel_rfl
def tens : List (String × Nat × List UInt8) :=
  [("pewholder/api.ErrText", 4, [112, 101, 119, 104, 111, 108, 100, 101, 114, 58, 32, 116, 101, 120, 116]),
   ("pewholder/api.ErrBound", 5, [112, 101, 119, 104, 111, 108, 100, 101, 114, 58, 32, 98, 111, 117, 110, 100]),
   ("pewholder/api.ErrShape", 6, [112, 101, 119, 104, 111, 108, 100, 101, 114, 58, 32, 115, 104, 97, 112, 101]),
   ("pewholder/api.ErrMajor", 7, [112, 101, 119, 104, 111, 108, 100, 101, 114, 58, 32, 109, 97, 106, 111, 114]),
   ("pewholder/api.ErrNone", 1, [112, 101, 119, 104, 111, 108, 100, 101, 114, 58, 32, 110, 111, 110, 101]),
   ("pewholder/api.ErrExist", 8, [112, 101, 119, 104, 111, 108, 100, 101, 114, 58, 32, 101, 120, 105, 115, 116]),
   ("pewholder/api.ErrFull", 0, [112, 101, 119, 104, 111, 108, 100, 101, 114, 58, 32, 102, 117, 108, 108]),
   ("pewholder/api.ErrOrder", 3, [112, 101, 119, 104, 111, 108, 100, 101, 114, 58, 32, 111, 114, 100, 101, 114]),
   ("pewholder/api.ErrClash", 9, [112, 101, 119, 104, 111, 108, 100, 101, 114, 58, 32, 99, 108, 97, 115, 104]),
   ("pewholder/api.ErrSum", 2, [112, 101, 119, 104, 111, 108, 100, 101, 114, 58, 32, 115, 117, 109])]
theorem tens_named : ∀ x, x ∈ tens → Tryz.prog.globalNamed x.1 = some x.2.1 ∧ (Tryz.prog.globals[x.2.1]?).map (·.type) = some 30 := by
  have h : (tens.all fun x => Tryz.prog.globalNamed x.1 == some x.2.1 && (Tryz.prog.globals[x.2.1]?).map (·.type) == some 30) = true := by kernel_rfl
  intro x hx
  simpa using List.all_eq_true.1 h x hx
theorem sen_of {W : World} (rest : List (String × DataW Unit)) (hl : laidMet Tryz.prog ((tens.map fun x => (x.1, DataW.iface "*errors.errorString" (.ptr (.agg [.lit (.string x.2.2)])))) ++ rest) W)
    (hh : handlesMet Tryz.prog [("errors.errorType", Rows.laid_errors_errorType)] W) : ∃ A, Er.Sen W A := by
  obtain ⟨ps, hl, hnd, hrows⟩ := hl
  obtain ⟨name, u, ty, e1, e2, e3, e4, e5⟩ := hh _ (List.mem_singleton.2 rfl)
  have en : name = [101, 114, 114, 111, 114] := (Option.some.inj e1).symm
  subst en
  obtain rfl := Option.some.inj (rtName.symm.trans e2)
  have hm : ty ∈ (List.range 331).filter fun t => Tryz.prog.rowNamed t [101, 114, 114, 111, 114] := List.mem_filter.2 ⟨List.mem_range.2 (by rw [← nTypes]; exact e3), e4⟩
  rw [oneRow] at hm
  obtain rfl := List.mem_singleton.1 hm
  have hhd : typeHandle Tryz.prog 30 = .pointer (some ⟨19, 30, none⟩) := by kernel_rfl
  rw [hhd] at e5
  have het : W.cell? ⟨10, 0, none⟩ = some (.iface 212 (.agg #[.pointer (some ⟨19, 30, none⟩)])) := by simpa using World.var?_cell etName e5 0
  obtain ⟨al, hlen, hsub, hall⟩ := Er.sens_rest Tryz.underlying30 rowS Tryz.underlying291 Tryz.underlying293 rfl rfl Tryz.underlying9 cellsS cellsStr rest tens ps hl tens_named hrows
  have hten : al.length = 10 := hlen
  refine ⟨fun k => al.getD k ⟨0, 0, none⟩, ?_⟩
  have get : ∀ k, k < 10 → al[k]? = some (al.getD k ⟨0, 0, none⟩) := fun k hk => by
    rw [List.getD_eq_getElem?_getD, List.getElem?_eq_getElem (by omega)]; rfl
  refine ⟨(hall 0 _ _ rfl (get 0 (by omega))).1, (hall 1 _ _ rfl (get 1 (by omega))).1, (hall 2 _ _ rfl (get 2 (by omega))).1, (hall 3 _ _ rfl (get 3 (by omega))).1, (hall 4 _ _ rfl (get 4 (by omega))).1, (hall 5 _ _ rfl (get 5 (by omega))).1, (hall 6 _ _ rfl (get 6 (by omega))).1, (hall 7 _ _ rfl (get 7 (by omega))).1, (hall 8 _ _ rfl (get 8 (by omega))).1, (hall 9 _ _ rfl (get 9 (by omega))).1, het, ?_, ?_⟩
  · intro k hk
    have hx : ∃ x, tens[k]? = some x := ⟨tens[k]'hk, List.getElem?_eq_getElem hk⟩
    obtain ⟨x, hx⟩ := hx
    exact (hall k x _ hx (get k hk)).2
  · intro i j hi hj hij
    have := Er.unlike hsub hnd (i := i) (j := j) (by omega) (by omega) hij
    intro e
    apply this
    have hi' := get i hi
    have hj' := get j hj
    rw [List.getElem?_eq_getElem (by omega)] at hi' hj'
    rw [Option.some.inj hi', Option.some.inj hj']
    exact e
theorem ml_of {W : World} (hsh : W.ShapedOpen Tryz.prog) : ∃ m, W.cell? ⟨12, 0, none⟩ = some (.int .i64 m) :=
  cell_of_shapedOpen_int (P := Tryz.prog) (g := 12) (t := 3) (zero := #[.int .i64 0]) hsh (of_decide_eq_true (by kernel_rfl)) (by kernel_rfl) rfl (by kernel_rfl) (by kernel_rfl) Tryz.underlying3
end Ve
end Go.Proofs.YtpafkniapacfdaaGreatDoor


namespace Go.Proofs.YtpafkniapacfdaaGreatDoor
open Go.RowKit
namespace Ve
def sufOk (l : List UInt8) : Bool := decide ((num (restOf l)).2 = 0) && decide (2 ≤ (num (restOf l)).1)
theorem trimV_any (s : ByteArray) (w : World) : Calls Tryz.prog 188 #[.string s, .string ⟨#[118]⟩] w fun e w' => ∃ R : ByteArray, e = .returned (.string R) ∧ R.data.toList = restOf s.data.toList ∧ w' = w :=
  (Tryz.strings_TrimPrefix s ⟨#[118]⟩ w).mono fun e w' ⟨h1, h2⟩ => ⟨_, h1, by
    have e0 : (⟨#[118]⟩ : ByteArray).data.toList = [118] := rfl
    rw [e0, trimPrefix_v], h2⟩
set_option maxHeartbeats 1000000 in
theorem suffix_any (s : ByteArray) (A : Nat → Addr) (m : Int) (w : World) (hs : s.size < 4294967281) (S : Te w A m) :
    Calls Tryz.prog 143 #[.string s] w fun e w' => e = .returned (.tuple #[.int .i64 (if sufOk s.data.toList then (num (restOf s.data.toList)).1 else 0), if sufOk s.data.toList then .nilIface else .iface 291 (.pointer (some (A 3)))]) ∧ Below w.heap.size w w' := by
  have HO := hid (show sufOk s.data.toList = (decide ((num (restOf s.data.toList)).2 = 0) && decide (2 ≤ (num (restOf s.data.toList)).1)) from rfl)
  have HS := hid S
  have HT := hid (trimV_any s w)
  have HN := hid (fun (R : ByteArray) (h : R.data.toList = restOf s.data.toList) W (SW : Te W A m) => num_any R (A 0) (A 1) m W (by
      have h1 := size_of h
      have h2 := restOf_le s.data.toList
      simp at h2; unfold maxLen; omega) SW.vs)
  have HE := hid (num_err (restOf s.data.toList))
  clear S
  by_cases h1 : (num (restOf s.data.toList)).2 = 0
  · by_cases h2 : 2 ≤ (num (restOf s.data.toList)).1
    · have HK := hid (show sufOk s.data.toList = true by rw [HO.out, decide_eq_true h1, decide_eq_true h2]; rfl)
      have H1 := hid h1
      rw [HK.out]
      clear h1
      go_enter Tryz.func143, Tryz.ntmps143
      go_wp2_with fail
      refine HT.out.mono ?_
      rintro e w' ⟨R, rfl, hR, rfl⟩
      have HR := hid hR
      clear hR
      go_wp2_with fail
      refine (HN.out R HR.out _ HS.out).mono ?_
      rintro e w1 ⟨rfl, hb1⟩
      rw [HR.out, H1.out, errV0]
      have HB := hid hb1
      clear hb1
      generalize hn : (num (restOf s.data.toList)).1 = n at *
      have HNN := hid hn
      clear hn
      go_wp2_with fail
      go_ret2
      exact ⟨by rw [← HNN.out]; rfl, HB.out⟩
    · have HK := hid (show sufOk s.data.toList = false by rw [HO.out, decide_eq_false h2]; simp)
      have H1 := hid h1
      rw [HK.out]
      clear h1
      go_enter Tryz.func143, Tryz.ntmps143
      go_wp2_with fail
      refine HT.out.mono ?_
      rintro e w' ⟨R, rfl, hR, rfl⟩
      have HR := hid hR
      clear hR
      go_wp2_with fail
      refine (HN.out R HR.out _ HS.out).mono ?_
      rintro e w1 ⟨rfl, hb1⟩
      rw [HR.out, H1.out, errV0]
      have HB := hid hb1
      have g3 := (HS.out.below hb1).sen.g3
      clear hb1
      generalize (num (restOf s.data.toList)).1 = n at *
      go_wp2_with fail
      go_quiet (fail)
      go_wp2_with fail
      go_ret2
      exact ⟨rfl, HB.out.trans ((below_drawn _ _).mono HB.out.size)⟩
  · have HK := hid (show sufOk s.data.toList = false by rw [HO.out, decide_eq_false h1]; rfl)
    have H1 := hid h1
    rw [HK.out]
    clear h1
    go_enter Tryz.func143, Tryz.ntmps143
    go_wp2_with fail
    refine HT.out.mono ?_
    rintro e w' ⟨R, rfl, hR, rfl⟩
    have HR := hid hR
    clear hR
    go_wp2_with fail
    refine (HN.out R HR.out _ HS.out).mono ?_
    rintro e w1 ⟨rfl, hb1⟩
    rw [HR.out]
    have HB := hid hb1
    have g3 := (HS.out.below hb1).sen.g3
    clear hb1
    obtain ⟨a9, ha9⟩ : ∃ a, errV (A 0) (A 1) (num (restOf s.data.toList)).2 = .iface 291 (.pointer (some a)) := by
      rcases HE.out with h | h | h
      · exact absurd h H1.out
      · exact ⟨_, by rw [h]; rfl⟩
      · exact ⟨_, by rw [h]; rfl⟩
    rw [ha9]
    clear ha9
    generalize (num (restOf s.data.toList)).1 = n at *
    go_wp2_with fail
    go_quiet (fail)
    go_wp2_with fail
    go_ret2
    exact ⟨rfl, HB.out.trans ((below_drawn _ _).mono HB.out.size)⟩
end Ve
end Go.Proofs.YtpafkniapacfdaaGreatDoor


namespace Go.Proofs.YtpafkniapacfdaaGreatDoor
open Go.RowKit
namespace Ve
theorem textOf_pre (a b c : Int) (ps : List (List UInt8)) : textOf a b c ps = if inBB a && inBB b && inBB c && pre ps == 0 then core3 a b c ++ preText ps else [] := by
  unfold textOf
  cases ps with
  | nil => simp [preText]
  | cons p r => simp [preText]
end Ve
end Go.Proofs.YtpafkniapacfdaaGreatDoor
