
import Derived.Test.YtpafkniapacfdaaGreatDoorCards
import Derived.Test.YtpafkniapacfdaaGreatDoorTie
import Derived.Test.YtpafkniapacfdaaGreatDoorSq46
import Derived.Test.YtpafkniapacfdaaGreatDoorSq23
import Derived.Test.YtpafkniapacfdaaGreatDoorSq2
import Derived.Test.YtpafkniapacfdaaGreatDoorSq45
import Derived.MakeChecks
import Derived.SevenTiedAt
import Derived.ChangeMaps5
import Derived.Carry
import Derived.Lib.SmallJoins
namespace Go.Proofs.YtpafkniapacfdaaGreatDoor
open Go.ChangeShapes Go.WideShapes Go.ChangeAt Go.RowKit Go.ChangeMaps Go.Joins
namespace Ve
theorem u32_pos {n : Int} (h : (Lit.int .u32 n).wf = true) : 0 ≤ n := by
  simp [Lit.wf, IntKind.min, IntKind.max, IntKind.signed, IntKind.bits] at h
  omega
theorem own : ownKnob Tryz.prog.godebug = none := by kernel_rfl
theorem laidOut : laidOutB Tryz.prog = true := by kernel_rfl
def plainOf : List (String × DataW Unit) := Rows.sumsHoldRow.laid.filter fun x => x.2.handleName?.isNone
noncomputable def startW (os : Go.Os) : World := (World.doorLaid Tryz.prog 400 os).layVars Tryz.prog plainOf
theorem te_of_laid {W : World} (h : laidMetH Tryz.prog Rows.sumsHoldRow.laid W) (hsh : W.ShapedOpen Tryz.prog) : ∃ A m, TsK W A m :=
  ts_of h.1 h.2 hsh
theorem start_met (os : Go.Os) (args : Array Value) : laidMetH Tryz.prog Rows.sumsHoldRow.laid ((startW os).forCall (fun _ _ => 0) ⟨#[], args, []⟩).memory :=
  laidMetH_of_parts (laidMet_over args (by kernel_rfl) (by kernel_rfl)) (by kernel_rfl)
theorem wants2 : ∀ t, t ∈ Tryz.f3.params → Tryz.prog.wantsStandIn t = false := by
  have h : (Tryz.f3.params.toList.all fun t => Tryz.prog.wantsStandIn t == false) = true := by kernel_rfl
  intro t ht
  simpa using List.all_eq_true.1 h t (by simpa using ht)
set_option maxRecDepth 100000 in
theorem sumsHold_lifted (os : Go.Os) (started : os.Started) (H : Type) (enc : TypeId × Value → H) :
    ReturnsInHanded {} Tryz.checked os 3 .any (fun w args => (Rows.sumsHoldSpec.pre enc Tryz.prog Tryz.f3 [] false w args ∧ laidMetH Tryz.prog Rows.sumsHoldRow.laid w) ∧ sizedMet enc Tryz.prog Tryz.f3 (OpenSpec.ofChange Rows.sumsHoldSpec) false w args)
      (Rows.sumsHoldSpec.post enc Tryz.prog Tryz.f3 false true false false) := by
  refine wrap_and_shaped (C := Tryz.checked) (X := fun w _ => laidMetH Tryz.prog Rows.sumsHoldRow.laid w) (fun _ _ _ hh h => h.of_heap hh) own started (by kernel_rfl) Tryz.func3
    (ChangeSpec.witness_shaped (enc := enc) (C := Tryz.checked) (os := os) (X := fun w _ => laidMetH Tryz.prog Rows.sumsHoldRow.laid w) false (startW os) #[.slice none 0 0, .slice none 0 0, .int .i64 0, .int .u32 0] 8 (World.layVars_os _ _ _)
      (World.shaped_of_ZipB (by kernel_rfl) (by kernel_rfl)) (by kernel_rfl) (by kernel_rfl) (by kernel_rfl) (start_met os _)) ?_
  intro W base args ds gs before hval0 hW hL hsh
  have hval : ∀ (j : Nat) t v, Tryz.f3.params[j]? = some t → args[j]? = some v → Value.okWide Tryz.prog W .any base t v := hval0
  have hW' := hW
  obtain ⟨p3, q, hA0, hV, rfl, _, _⟩ := hW
  have hA : DataW.TrodAll enc Tryz.prog W 0 (fun _ => true) true Tryz.f3.params.toList args.toList ds p3 := hA0
  rw [Tryz.params3] at hA hval
  obtain ⟨v0, v1, v2, v3, d0, d1, d2, d3, p0, p1, p2, p4, rfl, rfl, rfl, h0, h1, h2, h3⟩ := trodAll_four hA
  obtain ⟨rfl, rfl⟩ := trodVars_none hV
  obtain ⟨a0, len, cap, rfl⟩ := okWide_slice Tryz.underlying22 (hval 0 22 v0 rfl rfl)
  obtain ⟨a1, len1, cap1, rfl⟩ := okWide_slice Tryz.underlying23 (hval 1 23 v1 rfl rfl)
  obtain ⟨n2, rfl, rfl, rfl, w2⟩ := open_int Tryz.underlying3 (hval 2 3 v2 rfl rfl) h2
  obtain ⟨n3, rfl, rfl, rfl, w3⟩ := open_int Tryz.underlying24 (hval 3 24 v3 rfl rfl) h3
  have h0k := h0
  have h1k := h1
  obtain ⟨fuel, hf⟩ := h0
  obtain ⟨fuel1, hf1⟩ := h1
  obtain ⟨Q, L, I, em⟩ := open_ix (v := .slice a0 len cap) hf
  obtain ⟨R, hR, hER⟩ := open_ms (v := .slice a1 len1 cap1) hf1
  clear hA0 hval0 hA
  simp only [List.append_nil] at hW'
  have hlt : ∀ x ∈ p0 ++ p1, x.block < W.heap.size := fun x hx => by
    first | simpa using hW'.lt x hx | simpa using hW'.lt x (by simpa using hx)
  obtain ⟨A, m, K⟩ := te_of_laid hL hsh
  refine (sumsHold_any Q L R n2 n3 _ _ A m W K I em hR hER (u32_pos w3)).mono ?_
  intro e W' ⟨he, hb⟩
  subst he
  have g0 := Below.trod laidOut (by kernel_rfl) (of_decide_eq_true (by kernel_rfl)) h0k hb (fun x hx => hlt x (List.mem_append_left _ hx))
  have g1 := Below.trod laidOut (by kernel_rfl) (of_decide_eq_true (by kernel_rfl)) h1k hb (fun x hx => hlt x (List.mem_append_right _ hx))
  have e1 : Rows.sumsHoldSpec.fn H ([d0, d1, .lit (.int .i64 n2), .lit (.int .u32 n3)] ++ []) = { results := [.lit (.bool true)], args := [d0, d1, .lit (.int .i64 n2), .lit (.int .u32 n3)] } := rfl
  refine ⟨_, rfl, _, _, _, [], p0 ++ (p1 ++ ([] ++ [])), [], by simpa using hW', ?_, ?_, ?_, hb.frame _, fun h => by cases h⟩
  · rw [e1]; exact trodAll_mk1 (shut_bool Tryz.underlying4 true)
  · rw [e1]; exact trodAll_mk4 g0 g1 (shut_int Tryz.underlying3 w2) (shut_int Tryz.underlying24 w3)
  · rw [e1]; rfl
end Ve
end Go.Proofs.YtpafkniapacfdaaGreatDoor
