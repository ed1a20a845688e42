/-
  FoA DnP DnJ DcA
-/
import Derived.Test.YtlcffhadobhfkaaGreatDoorMq2
import Derived.Test.YtlcffhadobhfkaaGreatDoorMq20
import Derived.Test.YtlcffhadobhfkaaGreatDoorMq39
import Derived.Test.YtlcffhadobhfkaaGreatDoorMq37
import Derived.Test.YtlcffhadobhfkaaGreatDoorMq6
import Derived.Test.YtlcffhadobhfkaaGreatDoorMq22
import Derived.Test.YtlcffhadobhfkaaGreatDoorMq45
import Derived.Test.YtlcffhadobhfkaaGreatDoorMq34
import Derived.Test.YtlcffhadobhfkaaGreatDoorMq48
import Derived.Test.YtlcffhadobhfkaaGreatDoorMq3
import Derived.Test.YtlcffhadobhfkaaGreatDoorMq5
import Derived.Test.YtlcffhadobhfkaaGreatDoorMq9
import Derived.Test.YtlcffhadobhfkaaGreatDoorMq11
import Derived.Test.YtlcffhadobhfkaaGreatDoorMq18
import Derived.Test.YtlcffhadobhfkaaGreatDoorMq19
import Derived.Test.YtlcffhadobhfkaaGreatDoorMq15
import Derived.Test.YtlcffhadobhfkaaGreatDoorMq23
import Derived.Test.YtlcffhadobhfkaaGreatDoorMq28
import Derived.Test.YtlcffhadobhfkaaGreatDoorMq87
import Derived.Test.YtlcffhadobhfkaaGreatDoorMq88
import Derived.Test.YtlcffhadobhfkaaGreatDoorMq16
import Derived.Test.YtlcffhadobhfkaaGreatDoorMq43
namespace Go.Proofs.YtlcffhadobhfkaaGreatDoor
open Go.RowKit Go.Maps
namespace Ve
def hasM (X : List Bm) (m : Bm) : Bool:=X.any fun y=>eqM y m
theorem hasM_iff {X : List Bm} {m : Bm} : hasM X m = true ↔ m ∈ X:=by
  unfold hasM
  rw [List.any_eq_true]
  constructor
  · rintro ⟨y,hy,h⟩; rw [<- eqM_iff.1 h]; exact hy
  · intro h; exact ⟨m,h,eqM_iff.2 rfl⟩
theorem hasM_next {X : List Bm} {k : Nat} (hk : k < X.length) (m : Bm) : hasM (X.take (k + 1)) m = (hasM (X.take k) m || eqM X[k] m):=by
  unfold hasM
  rw [List.take_succ_eq_append_getElem hk,List.any_append]
  simp
theorem hasM_nil (X : List Bm) (m : Bm) : hasM (X.take 0) m = false:=by simp [hasM]
theorem Lw.self {bad : Bm -> Prop} {U : List Bm} {x : Bm} (hx : x ∈ U) (h : ¬ bad x) : Lw bad U x x:=
  ⟨hx,rfl,lessB_irr _,h,fun _ _ _ h1 _=>h1⟩
theorem Tw.keeps {bad : Bm -> Prop} {U roots X : List Bm} (h : Tw bad U roots X) {r : Bm} (hr : r ∈ roots) (hu : r ∈ U) (hb : ¬ bad r) : r ∈ X:=(h.mem r).2 ⟨r,hr,Lw.self hu hb⟩
theorem Tw.good {bad : Bm -> Prop} {U roots X : List Bm} (h : Tw bad U roots X) {x : Bm} (hx : x ∈ X) : x ∈ U /\ ¬ bad x:=
  let ⟨_,_,h1⟩:=(h.mem x).1 hx
  ⟨h1.mem,h1.ok⟩
set_option maxRecDepth 100000 in
set_option maxHeartbeats 2000000 in
theorem capped_any (B : List Bm) (m : Bm) (v : Value) (w : World) (hB : B.length ≤ 1000000) (hs : ∀ x, x ∈ B → x.2.size < 999999) (hm : m.2.size < 999999) (hv : MsAt w v B) :
    Calls Tryz.prog 48 #[v,.agg #[.string m.1,.string m.2]] w fun e w'=>e = .returned (.bool (capB B m)) /\ Below w.heap.size w w':=by
  obtain ⟨p,q⟩:=m
  simp only at hm
  have HB0:=hid ((Below.refl w.heap.size w).alloc (Nat.le_refl _) (.cells #[.string p,.string q] 25))
  have HF:=hid (fp_is B p v _ hB (hv.below HB0.out))
  obtain ⟨va,vc,hv1,_,hvc⟩:=id hv
  subst hv1
  rcases fpOf_kind B p with ⟨e1,h2⟩ | ⟨k,hk,e1,h2,h3⟩
  · have HX:=hid (capB_none (m:=(p,q)) fun c hc=>of_decide_eq_false (h2 c hc))
    rw [e1] at HF
    clear hv hvc e1 h2
    go_enter Tryz.func48,Tryz.ntmps48
    go_wp2_with fail
    refine HF.out.mono ?_
    rintro e w1 ⟨rfl,rfl⟩
    go_wp2_with fail
    go_ret
    exact ⟨ret_bool (by rw [HX.out]),HB0.out⟩
  · have HX:=hid (capB_at (m:=(p,q)) (atP_first hk (of_decide_eq_true h2) fun j hj hjk=>of_decide_eq_false (h3 j hj hjk)))
    rw [e1] at HF
    obtain ⟨bb,o,hva,hcell⟩:=hvc (fun e=>by rw [e] at hk; exact absurd hk (Nat.not_lt_zero _))
    subst hva
    have HC:=hid (hcell k hk)
    have hz:=hs B[k] (List.getElem_mem hk)
    have hk0 : ¬ (k : Int) < 0:=by omega
    have hkI : (k : Int) < (B.length : Int):=by omega
    have hkJ : (0 : Int) <= (k : Int):=by omega
    generalize B[k] = x at *
    obtain ⟨x1,x2⟩:=x
    simp only at hz
    have HL:=hid (fun W=>isLess_any x2 q W hz hm)
    have y0:=cell_below HB0.out HC.out.1
    have y1:=cell_below HB0.out HC.out.2
    have HXX:=hid (show capB B (p,q) = (decide (x2.data.toList = noneL) || lessB x2.data.toList q.data.toList) from HX.out)
    generalize lessB x2.data.toList q.data.toList = z at *
    obtain ⟨nb,hnb,hnd⟩ : ∃ nb : Bool,(x2.toList == [110,111,110,101]) = nb /\ decide (x2.data.toList = noneL) = nb:=by
      by_cases h : x2.data.toList = noneL
      · exact ⟨true,by rw [ByteArray.toList_eq]; exact beq_iff_eq.2 h,decide_eq_true h⟩
      · exact ⟨false,by rw [ByteArray.toList_eq]; exact beq_eq_false_iff_ne.2 h,decide_eq_false h⟩
    rw [hnd] at HXX
    clear hv hvc e1 h2 h3 hcell hs HX hnd
    go_enter Tryz.func48,Tryz.ntmps48
    go_wp2_with fail
    refine HF.out.mono ?_
    rintro e w1 ⟨rfl,rfl⟩
    obtain ⟨Wa,hWa⟩ : ∃ Wa,w.alloc (.cells #[.string p,.string q] 25) = Wa:=⟨_,rfl⟩
    have b0 : Wa.cell? ⟨w.heap.size,0,none⟩ = some (.string p):=by rw [<- hWa]; simp
    have b1 : Wa.cell? ⟨w.heap.size,1,none⟩ = some (.string q):=by rw [<- hWa]; simp
    rw [hWa] at HB0 y0 y1 ⊢
    have HT:=hid (fun W' (hW : Below Wa.heap.size Wa W')=>(show (fun W'=>W'.cell? ⟨bb,o + k * 2,none⟩ = some (.string x1) /\ W'.cell? ⟨bb,o + k * 2 + 1,none⟩ = some (.string x2) /\ W'.cell? ⟨w.heap.size,0,none⟩ = some (.string p) /\ W'.cell? ⟨w.heap.size,1,none⟩ = some (.string q) /\ Hid (Below Wa.heap.size Wa W')) W' from ⟨cell_below hW y0,cell_below hW y1,cell_below hW b0,cell_below hW b1,hid hW⟩))
    clear hWa
    go_wp2_with fail
    go_region_held (fun W'=>W'.cell? ⟨bb,o + k * 2,none⟩ = some (.string x1) /\ W'.cell? ⟨bb,o + k * 2 + 1,none⟩ = some (.string x2) /\ W'.cell? ⟨w.heap.size,0,none⟩ = some (.string p) /\ W'.cell? ⟨w.heap.size,1,none⟩ = some (.string q) /\ Hid (Below Wa.heap.size Wa W')) (first | exact HT.out _ HRa.out | exact HT.out _ (below_drawn _ 1)) (first
      | (go_at_call 49; refine (HL.out _).mono ?_; rintro e w' ⟨rfl,hb⟩; have HRa:=hid ((below_drawn Wa 1).trans (hb.mono (Nat.le_refl _))); clear hb))
    all_goals
      have HB:=hid (HB0.out.trans (HRa.out.mono HB0.out.size))
      obtain ⟨u0,u1,-,-,-⟩:=HT.out _ HRa.out
      clear y0 y1 b0 b1
      cases z
      · go_wp2_with fail
        go_ret
        exact ⟨ret_bool (by rw [HXX.out,Bool.or_false]),HB.out⟩
      · go_wp2_with fail
        go_ret
        exact ⟨ret_bool (by rw [HXX.out,Bool.or_true]),HB.out⟩
structure Gd (w W : World) (rv : Value) (roots : List Bm) (cv : Value) (caps : List Bm) (xv : Value) (T : List Bm) (yv : Value) (Y : List Bm) : Prop where
  bl : Below w.heap.size w W
  rs : MsAt W rv roots
  cs : MsAt W cv caps
  xs : MsAt W xv T
  ys : MsAt W yv Y
theorem Gd.below {w W W' : World} {rv cv xv yv : Value} {roots caps T Y : List Bm} (h : Gd w W rv roots cv caps xv T yv Y) (hb : Below W.heap.size W W') : Gd w W' rv roots cv caps xv T yv Y:=
  ⟨h.bl.trans (hb.mono h.bl.size),h.rs.below hb,h.cs.below hb,h.xs.below hb,h.ys.below hb⟩
def frB (x r : Bm) : Bool:=decide (r.1 = x.1) && !lessB (vb r) (vb x)
theorem selO_len : ∀ (O : List Bool) (U : List Bm),(selO O U).length <= U.length
  | [],U=>by simp [selO]
  | _ :: _,[]=>by simp [selO]
  | b :: O, m :: U => by
    have ih:=selO_len O U
    cases b
    · show (selO O U).length <= U.length + 1
      omega
    · show (selO O U).length + 1 <= U.length + 1
      omega
structure DcF (Q : List Raw) (L : List Ent) (roots caps T : List Bm) : Prop where
  ln : T.length <= L.length
  un : ∀ x,x ∈ T -> x ∈ univ L
  ok : (chkG Q L T).1 = 0
  cp : ∀ y,y ∈ bX Q L T -> capB caps y = false
  ke : (rX Q L roots).any (capB caps) = false -> ∀ r,r ∈ roots -> hasM T r = true
  fr : ∀ x,x ∈ T -> roots.any (frB x) = true
end Ve
end Go.Proofs.YtlcffhadobhfkaaGreatDoor
