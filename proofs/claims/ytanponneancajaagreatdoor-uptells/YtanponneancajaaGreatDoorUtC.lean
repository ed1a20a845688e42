/-
  What LikedOf and LatestOf of the document's answer say, in an index that is right.
-/
import Derived.Test.YtanponneancajaaGreatDoorUtA
import Derived.Test.YtanponneancajaaGreatDoorLkC
import Derived.Test.YtanponneancajaaGreatDoorSmG
namespace Go.Proofs.YtanponneancajaaGreatDoor
open Go.RowKit Go.Maps
namespace Ve

theorem kept_lenK {L : List ByteArray} {n : Nat} {X : List ByteArray} (g : L.length ≤ 1000) (h : Kept L n X) : X.length ≤ 1000 := by
  have hs : (bl X).length ≤ (bl L).length := nodup_sub (rises_nd h.1) fun t ht => List.mem_of_mem_take (by
    have := ((h.2 t).1 ht).1
    unfold bl at this ⊢
    rw [List.map_take] at this
    exact this)
  rw [bl_len, bl_len] at hs
  omega
set_option maxRecDepth 100000 in
set_option maxHeartbeats 4000000 in
/-- LatestOf, in an index that is right. -/
theorem latOf_any (Q : List Raw) (t : ByteArray) (v : Value) (w : World) (hL : Q.length ≤ 1000) (g : Good Q) (hz : ∀ r, r ∈ Q → r.1.1.size ≤ 80 ∧ r.1.2.size ≤ 80) (hK : ∃ Y, KeptT Q t Y) (hv : EsAt w v Q) :
    Calls Tryz.prog 85 #[v, .string t] w fun e w' => e = .returned (.string (latV Q t)) ∧ Below w.heap.size w w' := by
  have HVO := hid (versOf_any Q t v w hL hz hv)
  have HP := hid (show pthR t Q = ofP t Q from (g.ofP t).symm)
  rw [HP.out] at HVO
  have HLK := hid (fun X u W (h : Below w.heap.size w W) (hX : Kept (verL (ofP t Q)) (verL (ofP t Q)).length X) (hu : TxAt W u X) => liked_any Q t X v u W hL (Nat.le_trans (kept_lenK (by rw [verL_len]; exact Nat.le_trans (ofP_len t Q) hL) hX) (by decide)) (verOk_of g hz hX) (hv.below h) hu)
  have HEQ := hid (fun X (hX : Kept (verL (ofP t Q)) (verL (ofP t Q)).length X) => show (likN Q t X X.length).1 = latV Q t by
    obtain ⟨Y, hY⟩ := hK
    exact lik_lat g hX hY)
  obtain ⟨va, vc, hv1, -⟩ := id hv
  subst hv1
  clear hv hz hK HP
  go_enter Tryz.func85, Tryz.ntmps85
  go_wp2_with fail
  refine HVO.out.mono ?_
  rintro e w1 ⟨u, X, rfl, hu, hX, hb⟩
  have HL1 := hid (HLK.out X u w1 hb hX hu)
  rw [HEQ.out X hX] at HL1
  have HB1 := hid hb
  obtain ⟨ua, uc, hu1, -⟩ := hu
  subst hu1
  clear hb hX HVO HLK HEQ
  go_wp2_with fail
  refine HL1.out.mono ?_
  rintro e w2 ⟨rfl, hb⟩
  have HB2 := hid (HB1.out.trans (hb.mono HB1.out.size))
  clear hb
  go_wp2_with fail
  go_ret
  exact ⟨rfl, HB2.out⟩
end Ve
end Go.Proofs.YtanponneancajaaGreatDoor
