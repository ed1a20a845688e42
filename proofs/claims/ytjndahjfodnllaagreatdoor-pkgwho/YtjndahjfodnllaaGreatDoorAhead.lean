/-
  What Ahead of package mod answers; nothing old in memory turns.
-/
import Derived.Test.YtjndahjfodnllaaGreatDoorModD
import Derived.Test.YtjndahjfodnllaaGreatDoorLessAny
namespace Go.Proofs.YtjndahjfodnllaaGreatDoor
open Go.RowKit
namespace Ve

theorem str_refl (a : ByteArray) : (a.toList == a.toList) = true := by simp
theorem res2f {w w3 : World} {a b : Value} {T : TypeId} (hb : Below (w.heap.size + 1) (w.alloc (.cells #[a, b] T)) w3) : ∀ o, w3.frozen? ⟨w.heap.size, o, none⟩ = false := by
  intro o; rw [hb.frozen (by simp)]; simp

/-- Ahead: by the path's bytes, then by the version. -/
def aheadB (p v q u : List UInt8) : Bool := if p = q then lessB v u else decide (Lib.compareBytes p q < 0)
set_option maxHeartbeats 1000000 in
theorem ahead_any (p v q u : ByteArray) (A : Nat → Addr) (m : Int) (w : World) (hv : v.size < 999999) (hu : u.size < 999999) (S : Te w A m) :
    Calls Tryz.prog 98 #[.agg #[.string p, .string v], .agg #[.string q, .string u]] w fun e w' => e = .returned (.bool (aheadB p.data.toList v.data.toList q.data.toList u.data.toList)) ∧ Below w.heap.size w w' := by
  have HO := hid (show aheadB p.data.toList v.data.toList q.data.toList u.data.toList = if p.data.toList = q.data.toList then lessB v.data.toList u.data.toList else decide (Lib.compareBytes p.data.toList q.data.toList < 0) from rfl)
  have HB0 := hid (((Below.refl w.heap.size w).alloc (Nat.le_refl _) (.cells #[.string p, .string v] 38)).alloc (by simp) (.cells #[.string q, .string u] 38))
  by_cases h : p = q
  · subst h
    rw [if_pos rfl] at HO
    have he := str_refl p
    have HL := hid (fun W (SW : Te W A m) => less_any v u (A 0) (A 1) m W hv hu SW.vs)
    have HS := hid S
    clear S
    go_enter Tryz.func98, Tryz.ntmps98
    go_wp2_with fail
    refine (HL.out _ (HS.out.below HB0.out)).mono ?_
    rintro e w1 ⟨rfl, hb⟩
    have HB := hid (HB0.out.trans (hb.mono HB0.out.size))
    clear hb
    go_wp2_with fail
    go_ret
    exact ⟨ret_bool HO.out.symm, HB.out⟩
  · rw [if_neg (fun e => h (str_ext e))] at HO
    have he := str_ne h
    have HC := hid (show Op.bytesLess p.toList q.toList = decide (Lib.compareBytes p.data.toList q.data.toList < 0) by rw [cb_less, ByteArray.toList_eq, ByteArray.toList_eq])
    clear S h
    go_enter Tryz.func98, Tryz.ntmps98
    go_wp2_with fail
    go_ret
    exact ⟨ret_bool (by rw [HO.out, ← HC.out]), HB0.out⟩

end Ve
end Go.Proofs.YtjndahjfodnllaaGreatDoor
