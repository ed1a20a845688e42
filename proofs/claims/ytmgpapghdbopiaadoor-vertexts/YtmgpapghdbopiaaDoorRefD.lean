/-
  What the document's answer writes for a version's parts (VerText): the numbers, and the parts of the pre; nothing old in memory turns.
-/
import Derived.Test.YtmgpapghdbopiaaDoorRefC
import Derived.Deep.DeepCutAuto
namespace Go.Proofs.YtmgpapghdbopiaaDoor
open Go.RowKit
namespace Ve

theorem size21 {Sa Sb Sc : ByteArray} (ha : Sa.size ≤ 6) (hb : Sb.size ≤ 6) (hc : Sc.size ≤ 6) : ((⟨#[118]⟩ : ByteArray) ++ Sa ++ ⟨#[46]⟩ ++ Sb ++ ⟨#[46]⟩ ++ Sc).size ≤ 21 := by
  simp only [ByteArray.size_append]
  have h1 : (⟨#[118]⟩ : ByteArray).size = 1 := rfl
  have h2 : (⟨#[46]⟩ : ByteArray).size = 1 := rfl
  omega

/-- A boxed struct of four while memory grows. -/
structure Ty (w0 w : World) (N : Nat) (a b c v : Value) : Prop where
  c0 : w.cell? ⟨N, 0, none⟩ = some a
  c1 : w.cell? ⟨N, 1, none⟩ = some b
  c2 : w.cell? ⟨N, 2, none⟩ = some c
  c3 : w.cell? ⟨N, 3, none⟩ = some v
  bl : Below w0.heap.size w0 w
theorem Ty.below {w0 w w' : World} {N : Nat} {a b c v : Value} (h : Ty w0 w N a b c v) (hb : Below w.heap.size w w') : Ty w0 w' N a b c v :=
  ⟨cell_below hb h.c0, cell_below hb h.c1, cell_below hb h.c2, cell_below hb h.c3, h.bl.trans (hb.mono h.bl.size)⟩
theorem Ty.start {w : World} {a b c v : Value} {T : TypeId} : Ty w (w.alloc (.cells #[a, b, c, v] T)) w.heap.size a b c v :=
  ⟨by simp, by simp, by simp, by simp, (Below.refl _ _).alloc (Nat.le_refl _) _⟩
theorem Ty.drew {w0 w : World} {N : Nat} {a b c v : Value} (h : Ty w0 w N a b c v) : Ty w0 w.drew N a b c v := h.below (below_drawn w 1)
theorem Ty.held {w0 w : World} {N : Nat} {a b c v : Value} (h : Ty w0 w N a b c v) : w.cell? ⟨N, 0, none⟩ = some a ∧ w.cell? ⟨N, 1, none⟩ = some b ∧ w.cell? ⟨N, 2, none⟩ = some c ∧ w.cell? ⟨N, 3, none⟩ = some v ∧ Hid (Ty w0 w N a b c v) :=
  ⟨h.c0, h.c1, h.c2, h.c3, h⟩

set_option maxHeartbeats 2000000 in
theorem vtext_any (a b c : Int) (sa : Option Addr) (cp : Nat) (X : List ByteArray) (w : World) (a0 : 0 ≤ a) (a1 : a ≤ 999999) (b0 : 0 ≤ b) (b1 : b ≤ 999999) (d0 : 0 ≤ c) (d1 : c ≤ 999999) (hX : X.length ≤ 1000)
    (hsa : X ≠ [] → ∃ bk o, sa = some ⟨bk, o, none⟩ ∧ ∀ j (h : j < X.length), w.cell? ⟨bk, o + j, none⟩ = some (.string X[j])) (hlen : (preText (bl X)).length ≤ 1000000) :
    Calls Tryd.prog 7 #[.agg #[.int .i64 a, .int .i64 b, .int .i64 c, .slice sa X.length cp]] w fun e w' => ∃ T : ByteArray, e = .returned (.string T) ∧ T.data.toList = core3 a b c ++ preText (bl X) ∧ Below w.heap.size w w' := by
  have HSA := hid hsa
  have HLE := hid hlen
  have HT := hid (Ty.start (w := w) (a := .int .i64 a) (b := .int .i64 b) (c := .int .i64 c) (v := .slice sa X.length cp) (T := 30))
  clear hsa hlen
  go_enter Tryd.func7, Tryd.ntmps7
  go_upto_region 1 with fail
  go_cut [3] (fun sv wx => ∃ T : ByteArray, sv = .string T ∧ Hid (T.data.toList = core3 a b c) ∧ T.size ≤ 21 ∧ Hid (Ty w wx w.heap.size (.int .i64 a) (.int .i64 b) (.int .i64 c) (.slice sa X.length cp)))
  case first =>
    go_region_held (fun W => W.cell? ⟨w.heap.size, 0, none⟩ = some (.int .i64 a) ∧ W.cell? ⟨w.heap.size, 1, none⟩ = some (.int .i64 b) ∧ W.cell? ⟨w.heap.size, 2, none⟩ = some (.int .i64 c) ∧ W.cell? ⟨w.heap.size, 3, none⟩ = some (.slice sa X.length cp) ∧ Hid (Ty w W w.heap.size (.int .i64 a) (.int .i64 b) (.int .i64 c) (.slice sa X.length cp))) (first | exact HTc.out.held | exact HTb.out.held | exact HTa.out.held | exact HT.out.drew.held) (first
      | (go_at_call_of 21 (Value.int IntKind.i64 a); refine (decimal_any a _ a0 a1).mono ?_; rintro e w' ⟨Sa, rfl, hS, hZa, hb⟩; have HSa := hid hS; have HTa := hid (HT.out.drew.below hb); clear hS hb)
      | (go_at_call_of 21 (Value.int IntKind.i64 b); refine (decimal_any b _ b0 b1).mono ?_; rintro e w' ⟨Sb, rfl, hS, hZb, hb⟩; have HSb := hid hS; have HTb := hid (HTa.out.below hb); clear hS hb)
      | (go_at_call_of 21 (Value.int IntKind.i64 c); refine (decimal_any c _ d0 d1).mono ?_; rintro e w' ⟨Sc, rfl, hS, hZc, hb⟩; have HSc := hid hS; have HTc := hid (HTb.out.below hb); clear hS hb))
    all_goals
      go_wp2_with fail
      go_meet
      refine ⟨_, rfl, ?_, size21 hZa hZb hZc, HTc⟩
      refine hid ?_
      unfold core3
      rw [← HSa.out, ← HSb.out, ← HSc.out]
      simp
  case rest =>
    obtain ⟨T, rfl, HTT, hT, HTY⟩ := hcut
    have c3 := HTY.out.c3
    go_wp2_with fail
    go_loop [3, 4] (fun sv i => ∃ (k : Nat) (U : ByteArray), k ≤ X.length ∧ i = .int .i64 k ∧ sv = .string U ∧ Hid (U.data.toList = core3 a b c ++ preText (bl (X.take k))) ∧ U.size ≤ 21 + (preText (bl (X.take k))).length) (fun _ i => X.length - (intOf i).toNat)
    case atStart => exact ⟨0, T, Nat.zero_le _, rfl, rfl, hid (by simpa [bl, preText] using HTT.out), by simpa [bl, preText] using hT⟩
    case round =>
      obtain ⟨k, U, hk, rfl, rfl, HU, hU⟩ := hrel
      have hpl := preText_take X k
      have hpl2 := HLE.out
      by_cases hlt : k < X.length
      · obtain ⟨bk, o, hsa, hcell⟩ := HSA.out (by intro h; subst h; simp at hlt)
        have hc := cell_below HTY.out.bl (hcell k hlt)
        have HK := hid (preText_take X (k + 1))
        have HBS := hid (bl_take_snoc X k hlt)
        subst hsa
        clear hcell
        have hUs : U.size ≤ 1000021 := by omega
        have hXs : X[k].size ≤ 1000000 := by
          have h1 := HK.out
          rw [HBS.out] at h1
          by_cases h0 : bl (X.take k) = []
          · rw [h0] at h1; simp only [List.nil_append, preText_one] at h1; simp at h1; omega
          · rw [preText_snoc _ h0] at h1; simp at h1; omega
        by_cases h0 : k = 0
        · subst h0
          rw [Nat.add_zero] at hc
          have HF := hid (show core3 a b c ++ preText (bl (X.take 0)) ++ ([45] : List UInt8) ++ X[0].data.toList = core3 a b c ++ preText (bl (X.take (0 + 1))) by
            rw [HBS.out]; simp [bl, preText, Lib.join_one])
          have HZ := hid (show U.size + 1 + X[0].size ≤ 21 + (preText (bl (X.take (0 + 1)))).length by
            have hu : U.size ≤ 21 := by simpa [bl, preText] using hU
            have hx := len_eq X[0]
            rw [HBS.out, show bl (X.take 0) = [] from rfl, List.nil_append, preText_one, List.length_append, hx]
            show U.size + 1 + X[0].size ≤ 21 + (1 + X[0].size)
            omega)
          clear hpl hpl2 hU
          go_wp2_with fail
          go_round
          case rel => exact ⟨0 + 1, _, by omega, by go_num, rfl, hid (by rw [← HF.out, ← HU.out]; simp), by rw [ByteArray.size_append, ByteArray.size_append]; exact HZ.out⟩
          case measure => simp [intOf]; omega
        · have h0b : ((k : Int) == 0) = false := by simp; omega
          have hne : bl (X.take k) ≠ [] := by
            intro h
            have := congrArg List.length h
            rw [bl_len, List.length_take, List.length_nil] at this; omega
          have HF := hid (show core3 a b c ++ preText (bl (X.take k)) ++ ([46] : List UInt8) ++ X[k].data.toList = core3 a b c ++ preText (bl (X.take (k + 1))) by
            rw [HBS.out, preText_snoc _ hne]; simp)
          have HZ := hid (show U.size + 1 + X[k].size ≤ 21 + (preText (bl (X.take (k + 1)))).length by
            have hx := len_eq X[k]
            rw [HBS.out, preText_snoc _ hne, List.length_append, List.length_append, hx]
            show U.size + 1 + X[k].size ≤ 21 + ((preText (bl (X.take k))).length + (1 + X[k].size))
            omega)
          clear hpl hpl2 hU hne
          go_wp2_with fail
          go_round
          case rel => exact ⟨k + 1, _, by omega, by go_num, rfl, hid (by rw [← HF.out, ← HU.out]; simp), by rw [ByteArray.size_append, ByteArray.size_append]; exact HZ.out⟩
          case measure => simp [intOf]; omega
      · go_wp2_with fail
        go_ret
        have e : X.take k = X := List.take_of_length_le (by omega)
        exact ⟨U, rfl, by rw [HU.out, e], HTY.out.bl⟩
end Ve
end Go.Proofs.YtmgpapghdbopiaaDoor
