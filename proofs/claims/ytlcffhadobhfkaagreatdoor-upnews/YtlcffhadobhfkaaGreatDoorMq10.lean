/-
  VerG
-/
import Derived.Test.YtlcffhadobhfkaaGreatDoorMq2
import Derived.Test.YtlcffhadobhfkaaGreatDoorMq5
import Derived.Test.YtlcffhadobhfkaaGreatDoorMq6
import Derived.Test.YtlcffhadobhfkaaGreatDoorMq7
import Derived.Test.YtlcffhadobhfkaaGreatDoorMq3
import Derived.Test.YtlcffhadobhfkaaGreatDoorMq9
namespace Go.Proofs.YtlcffhadobhfkaaGreatDoor
open Go.RowKit Go.Sort
namespace Ve
theorem below_grow (w : World) (k : Nat) (os : Array Obj) : Below w.heap.size w (grow (w.drewN k) os):=
  ⟨rfl,rfl,rfl,by show w.heap.size <= (w.heap ++ os).size; simp,fun i hi=>by show (w.heap ++ os)[i]? = _; rw [Array.getElem?_append_left hi]⟩
theorem nDigits_le : ∀ (k u : Nat),u < 10 ^ (k + 1) -> Lib.nDigits u <= k + 1
  | 0,u,h=>by rw [Lib.nDigits_small (by simpa using h)]; omega
  | k + 1,u,h=>by
    by_cases h0 : u < 10
    · rw [Lib.nDigits_small h0]; omega
    · rw [Lib.nDigits_big h0]
      have:=nDigits_le k (u / 10) (by rw [Nat.pow_succ] at h; omega)
      omega
theorem itoa_le (n : Int) (h0 : 0 <= n) (h1 : n <= 999999) : (Lib.itoa n).length <= 6:=by
  unfold Lib.itoa
  rw [if_neg (by omega),Lib.decDigits_length]
  exact nDigits_le 5 n.toNat (by omega)
theorem itoa_any (n : Int) (w : World) (h0 : 0 <= n) (h1 : n <= 999999) (htab : Lib.TabIs Tryz.prog w powName .u64 Lib.pow10Tab) :
    Calls Tryz.prog 289 #[.int .i64 n] w fun e w'=>∃ S : ByteArray,e = .returned (.string S) /\ S.data.toList = Lib.itoa n /\ S.size <= 6 /\ Below w.heap.size w w':=
  (Tryz.strconv_Itoa n (by omega) (by omega) w htab).mono fun e w' ⟨e1,k,os,e2⟩=>⟨_,e1,by simp,by show (Lib.itoa n).toArray.size <= 6; simpa using itoa_le n h0 h1,by rw [e2]; exact below_grow w k os⟩
theorem Tx.drew {w0 w : World} {N : Nat} {a b c v : Value} (h : Tx w0 w N a b c v) : Tx w0 w.drew N a b c v:=h.below (below_drawn w 1)
set_option maxHeartbeats 1000000 in
theorem text_nums (a b c : Int) (v : Value) (w : World) (h : (inBB a && inBB b && inBB c) = false) :
    Calls Tryz.prog 275 #[.agg #[.int .i64 a,.int .i64 b,.int .i64 c,v]] w fun e w'=>e = .returned (.string ⟨#[]⟩) /\ Below w.heap.size w w':=by
  have HA:=hid (fun W=>inB_any a W)
  have HB:=hid (fun W=>inB_any b W)
  have HC:=hid (fun W=>inB_any c W)
  cases ha : inBB a
  · rw [ha] at HA
    clear h ha
    go_enter Tryz.func275,Tryz.ntmps275
    go_wp2_with fail
    refine (HA.out _).mono ?_
    rintro e w' ⟨rfl,rfl⟩
    go_wp2_with fail
    go_ret
    exact ⟨rfl,(Below.refl _ _).alloc (Nat.le_refl _) _⟩
  · cases hb : inBB b
    · rw [ha] at HA
      rw [hb] at HB
      clear h ha hb
      go_enter Tryz.func275,Tryz.ntmps275
      go_wp2_with fail
      refine (HA.out _).mono ?_
      rintro e w' ⟨rfl,rfl⟩
      go_wp2_with fail
      refine (HB.out _).mono ?_
      rintro e w' ⟨rfl,rfl⟩
      go_wp2_with fail
      go_ret
      exact ⟨rfl,(Below.refl _ _).alloc (Nat.le_refl _) _⟩
    · have hc : inBB c = false:=by rw [ha,hb] at h; simpa using h
      rw [ha] at HA
      rw [hb] at HB
      rw [hc] at HC
      clear h ha hb hc
      go_enter Tryz.func275,Tryz.ntmps275
      go_wp2_with fail
      refine (HA.out _).mono ?_
      rintro e w' ⟨rfl,rfl⟩
      go_wp2_with fail
      refine (HB.out _).mono ?_
      rintro e w' ⟨rfl,rfl⟩
      go_wp2_with fail
      refine (HC.out _).mono ?_
      rintro e w' ⟨rfl,rfl⟩
      go_wp2_with fail
      go_ret
      exact ⟨rfl,(Below.refl _ _).alloc (Nat.le_refl _) _⟩
set_option maxHeartbeats 1000000 in
theorem text_none (a b c : Int) (w : World) (ha : inBB a = true) (hb : inBB b = true) (hc : inBB c = true) (htab : Lib.TabIs Tryz.prog w powName .u64 Lib.pow10Tab)
    (hpre : ∀ W,Below w.heap.size w W -> Calls Tryz.prog 167 #[.slice none 0 0] W fun e w'=>e = .returned .nilIface /\ Below W.heap.size W w') :
    Calls Tryz.prog 275 #[.agg #[.int .i64 a,.int .i64 b,.int .i64 c,.slice none 0 0]] w fun e w'=>∃ T : ByteArray,e = .returned (.string T) /\ T.data.toList = core3 a b c /\ Below w.heap.size w w':=by
  have HA:=hid (fun W=>inB_any a W)
  have HB:=hid (fun W=>inB_any b W)
  have HC:=hid (fun W=>inB_any c W)
  rw [ha] at HA
  rw [hb] at HB
  rw [hc] at HC
  simp only [inBB,decide_eq_true_eq] at ha hb hc
  obtain ⟨a0,a1⟩:=ha
  obtain ⟨b0,b1⟩:=hb
  obtain ⟨d0,d1⟩:=hc
  have HT:=hid (Tx.start (a:=.int .i64 a) (b:=.int .i64 b) (c:=.int .i64 c) (v:=.slice none 0 0) (T:=144) htab)
  have HP:=hid hpre
  clear htab hpre
  go_enter Tryz.func275,Tryz.ntmps275
  go_wp2_with fail
  refine (HA.out _).mono ?_
  rintro e w' ⟨rfl,rfl⟩
  go_wp2_with fail
  refine (HB.out _).mono ?_
  rintro e w' ⟨rfl,rfl⟩
  go_wp2_with fail
  refine (HC.out _).mono ?_
  rintro e w' ⟨rfl,rfl⟩
  go_wp2_with fail
  refine (HP.out _ HT.out.bl).mono ?_
  rintro e w1 ⟨rfl,hb1⟩
  have HT:=hid (HT.out.below hb1)
  clear hb1
  have c0:=HT.out.c0
  have c1:=HT.out.c1
  have c2:=HT.out.c2
  have c3:=HT.out.c3
  go_wp2_with fail
  go_region_held (fun W=>W.cell? ⟨w.heap.size,0,none⟩ = some (.int .i64 a) /\ W.cell? ⟨w.heap.size,1,none⟩ = some (.int .i64 b) /\ W.cell? ⟨w.heap.size,2,none⟩ = some (.int .i64 c) /\ W.cell? ⟨w.heap.size,3,none⟩ = some (.slice none 0 0) /\ Hid (Tx w W w.heap.size (.int .i64 a) (.int .i64 b) (.int .i64 c) (.slice none 0 0))) (first | exact HTc.out.held | exact HTb.out.held | exact HTa.out.held | exact HT.out.drew.held) (first
    | (go_at_call_of 289 (Value.int IntKind.i64 a); refine (itoa_any a _ a0 a1 ?_).mono ?_; exact HT.out.drew.tab; rintro e w' ⟨Sa,rfl,hS,hZa,hb⟩; have HSa:=hid hS; have HTa:=hid (HT.out.drew.below hb); clear hS hb)
    | (go_at_call_of 289 (Value.int IntKind.i64 b); refine (itoa_any b _ b0 b1 ?_).mono ?_; exact HTa.out.tab; rintro e w' ⟨Sb,rfl,hS,hZb,hb⟩; have HSb:=hid hS; have HTb:=hid (HTa.out.below hb); clear hS hb)
    | (go_at_call_of 289 (Value.int IntKind.i64 c); refine (itoa_any c _ d0 d1 ?_).mono ?_; exact HTb.out.tab; rintro e w' ⟨Sc,rfl,hS,hZc,hb⟩; have HSc:=hid hS; have HTc:=hid (HTb.out.below hb); clear hS hb))
  all_goals
    have c3:=HTc.out.c3
    go_wp2_with fail
    go_ret
    refine ⟨_,rfl,?_,HTc.out.bl⟩
    unfold core3
    rw [<- HSa.out,<- HSb.out,<- HSc.out]
    simp
end Ve
end Go.Proofs.YtlcffhadobhfkaaGreatDoor
