/-
  VerH
-/
import Derived.Test.YtlcffhadobhfkaaGreatDoorMq2
import Derived.Test.YtlcffhadobhfkaaGreatDoorMq5
import Derived.Test.YtlcffhadobhfkaaGreatDoorMq6
import Derived.Test.YtlcffhadobhfkaaGreatDoorMq7
import Derived.Test.YtlcffhadobhfkaaGreatDoorMq3
import Derived.Test.YtlcffhadobhfkaaGreatDoorMq10
import Derived.Test.YtlcffhadobhfkaaGreatDoorMq9
namespace Go.Proofs.YtlcffhadobhfkaaGreatDoor
open Go.RowKit Go.Sort
namespace Ve
theorem join_any (bk cp : Nat) (X : List ByteArray) (w : World) (hX : X.length <= 1000) (hcp : X.length <= cp) (hbk : bk < w.heap.size) (hcell : ∀ j (h : j < X.length),w.cell? ⟨bk,0 + j,none⟩ = some (.string X[j])) (hlen : (Lib.join (bl X) [46]).length <= 1000000) :
    Calls Tryz.prog 187 #[.slice (some ⟨bk,0,none⟩) X.length cp,.string ⟨#[46]⟩] w fun e w'=>∃ J : ByteArray,e = .returned (.string J) /\ J.data.toList = Lib.join (bl X) [46] /\ J.size <= 1000000 /\ Below w.heap.size w w':=
  (Tryz.strings_Join bk 0 cp X ⟨#[46]⟩ w (fun j x hx=>by
      obtain ⟨hj,e⟩:=List.getElem?_eq_some_iff.1 hx
      rw [<- e]
      exact hcell j hj) hbk (by omega) hcp (Nat.le_trans hlen (by omega))).mono fun e w' ⟨h1,h2⟩=>
    ⟨⟨(Lib.join (bl X) [46]).toArray⟩,h1,by simp,by show (Lib.join (bl X) [46]).toArray.size <= _; simpa using hlen,h2⟩
set_option maxHeartbeats 1000000 in
theorem text_some (a b c : Int) (bk cp : Nat) (X : List ByteArray) (w : World) (hX : X.length <= 1000) (hcp : X.length <= cp) (hXn : X ≠ []) (hbk : bk < w.heap.size) (hcell : ∀ j (h : j < X.length),w.cell? ⟨bk,0 + j,none⟩ = some (.string X[j])) (hlen : (Lib.join (bl X) [46]).length <= 1000000) (ha : inBB a = true) (hb : inBB b = true) (hc : inBB c = true) (htab : Lib.TabIs Tryz.prog w powName .u64 Lib.pow10Tab)
    (hpre : ∀ W,Below w.heap.size w W -> Calls Tryz.prog 167 #[.slice (some ⟨bk,0,none⟩) X.length cp] W fun e w'=>e = .returned .nilIface /\ Below W.heap.size W w') :
    Calls Tryz.prog 275 #[.agg #[.int .i64 a,.int .i64 b,.int .i64 c,.slice (some ⟨bk,0,none⟩) X.length cp]] w fun e w'=>∃ T : ByteArray,e = .returned (.string T) /\ T.data.toList = core3 a b c ++ [45] ++ Lib.join (bl X) [46] /\ Below w.heap.size w w':=by
  have HCE:=hid hcell
  have HXN:=hid hXn
  have HLE:=hid hlen
  have hx0 : ((X.length : Int) == 0) = false:=by
    have:=List.length_pos_iff.2 hXn
    simp; omega
  clear hcell hXn hlen
  have HA:=hid (fun W=>inB_any a W)
  have HB:=hid (fun W=>inB_any b W)
  have HC:=hid (fun W=>inB_any c W)
  rw [ha] at HA
  rw [hb] at HB
  rw [hc] at HC
  simp only [inBB,decide_eq_true_eq] at ha hb hc
  obtain ⟨a0,a1⟩:=ha
  obtain ⟨b0,b1⟩:=hb
  obtain ⟨d0,d1⟩:=hc
  have HT:=hid (Tx.start (a:=.int .i64 a) (b:=.int .i64 b) (c:=.int .i64 c) (v:=.slice (some ⟨bk,0,none⟩) X.length cp) (T:=144) htab)
  have HP:=hid hpre
  clear htab hpre
  go_enter Tryz.func275,Tryz.ntmps275
  go_wp2_with fail
  refine (HA.out _).mono ?_
  rintro e w' ⟨rfl,rfl⟩
  go_wp2_with fail
  refine (HB.out _).mono ?_
  rintro e w' ⟨rfl,rfl⟩
  go_wp2_with fail
  refine (HC.out _).mono ?_
  rintro e w' ⟨rfl,rfl⟩
  go_wp2_with fail
  refine (HP.out _ HT.out.bl).mono ?_
  rintro e w1 ⟨rfl,hb1⟩
  have HT:=hid (HT.out.below hb1)
  clear hb1
  have c0:=HT.out.c0
  have c1:=HT.out.c1
  have c2:=HT.out.c2
  have c3:=HT.out.c3
  go_wp2_with fail
  go_region_held (fun W=>W.cell? ⟨w.heap.size,0,none⟩ = some (.int .i64 a) /\ W.cell? ⟨w.heap.size,1,none⟩ = some (.int .i64 b) /\ W.cell? ⟨w.heap.size,2,none⟩ = some (.int .i64 c) /\ W.cell? ⟨w.heap.size,3,none⟩ = some (.slice (some ⟨bk,0,none⟩) X.length cp) /\ Hid (Tx w W w.heap.size (.int .i64 a) (.int .i64 b) (.int .i64 c) (.slice (some ⟨bk,0,none⟩) X.length cp))) (first | exact HTc.out.held | exact HTb.out.held | exact HTa.out.held | exact HT.out.drew.held) (first
    | (go_at_call_of 289 (Value.int IntKind.i64 a); refine (itoa_any a _ a0 a1 ?_).mono ?_; exact HT.out.drew.tab; rintro e w' ⟨Sa,rfl,hS,hZa,hb⟩; have HSa:=hid hS; have HTa:=hid (HT.out.drew.below hb); clear hS hb)
    | (go_at_call_of 289 (Value.int IntKind.i64 b); refine (itoa_any b _ b0 b1 ?_).mono ?_; exact HTa.out.tab; rintro e w' ⟨Sb,rfl,hS,hZb,hb⟩; have HSb:=hid hS; have HTb:=hid (HTa.out.below hb); clear hS hb)
    | (go_at_call_of 289 (Value.int IntKind.i64 c); refine (itoa_any c _ d0 d1 ?_).mono ?_; exact HTb.out.tab; rintro e w' ⟨Sc,rfl,hS,hZc,hb⟩; have HSc:=hid hS; have HTc:=hid (HTb.out.below hb); clear hS hb))
  all_goals
    have c3:=HTc.out.c3
    have HJ:=hid (join_any bk cp X w' hX hcp (Nat.lt_of_lt_of_le hbk HTc.out.bl.size) (fun j hj=>cell_below HTc.out.bl (HCE.out j hj)) HLE.out)
    go_wp2_with fail
    refine HJ.out.mono ?_
    rintro e w2 ⟨J,rfl,hJ,hJs,hb2⟩
    have HJe:=hid hJ
    have HB2:=hid (HTc.out.bl.trans (hb2.mono HTc.out.bl.size))
    clear hb2 HJ hJ
    go_wp2_with fail
    go_ret
    refine ⟨_,rfl,?_,HB2.out⟩
    unfold core3
    rw [<- HSa.out,<- HSb.out,<- HSc.out,<- HJe.out]
    simp
end Ve
end Go.Proofs.YtlcffhadobhfkaaGreatDoor
