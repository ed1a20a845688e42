/-
  Te PreT VerO OrdB VerM SplitAny ModB VerQ
-/
import Derived.Test.YtlcffhadobhfkaaGreatDoorMq6
import Derived.Test.YtlcffhadobhfkaaGreatDoorMq3
import Derived.Test.YtlcffhadobhfkaaGreatDoorMq9
import Derived.Test.YtlcffhadobhfkaaGreatDoorMq2
import Derived.Test.YtlcffhadobhfkaaGreatDoorMq5
import Derived.Test.YtlcffhadobhfkaaGreatDoorMq8
namespace Go.Proofs.YtlcffhadobhfkaaGreatDoor
open Go.RowKit
namespace Ve
structure Sn (w : World) (A : Nat -> Addr) : Prop where
  g0 : w.cell? ⟨3,0,none⟩ = some (.iface 319 (.pointer (some (A 0))))
  g1 : w.cell? ⟨4,0,none⟩ = some (.iface 319 (.pointer (some (A 1))))
  g2 : w.cell? ⟨2,0,none⟩ = some (.iface 319 (.pointer (some (A 2))))
  g3 : w.cell? ⟨5,0,none⟩ = some (.iface 319 (.pointer (some (A 3))))
  g4 : w.cell? ⟨0,0,none⟩ = some (.iface 319 (.pointer (some (A 4))))
  g6 : w.cell? ⟨7,0,none⟩ = some (.iface 319 (.pointer (some (A 6))))
  g7 : w.cell? ⟨1,0,none⟩ = some (.iface 319 (.pointer (some (A 7))))
  et : w.cell? ⟨10,0,none⟩ = some (.iface 205 (.agg #[.pointer (some ⟨17,32,none⟩)]))
structure Te (w : World) (A : Nat -> Addr) (m : Int) : Prop where
  sen : Sn w A
  vs : Vs w (A 0) (A 1) m
theorem Te.ml {w : World} {A : Nat -> Addr} {m : Int} (h : Te w A m) : w.cell? ⟨11,0,none⟩ = some (.int .i64 m):=h.vs.ml
theorem Te.below {w w' : World} {A : Nat -> Addr} {m : Int} (h : Te w A m) (hb : Below w.heap.size w w') : Te w' A m:=
  ⟨⟨cell_below hb h.sen.g0,cell_below hb h.sen.g1,cell_below hb h.sen.g2,cell_below hb h.sen.g3,cell_below hb h.sen.g4,cell_below hb h.sen.g6,cell_below hb h.sen.g7,cell_below hb h.sen.et⟩,h.vs.below hb⟩
def errA (A : Nat -> Addr) (c : Nat) : Value:=if c = 0 then .nilIface else .iface 319 (.pointer (some (A (c - 1))))
theorem errA0 (A : Nat -> Addr) : errA A 0 = .nilIface:=rfl
theorem errA_V (A : Nat -> Addr) (c : Nat) (h : c = 0 \/ c = 1 \/ c = 2) : errV (A 0) (A 1) c = errA A c:=by
  rcases h with rfl | rfl | rfl <;> rfl
theorem errA_ne (A : Nat -> Addr) {c : Nat} (h : c ≠ 0) : ∃ a,errA A c = .iface 319 (.pointer (some a)):=⟨_,by unfold errA; rw [if_neg h]⟩
theorem dec_big {u : Nat} (h : ¬ u < 10) : Lib.decDigits u = Lib.decDigits (u / 10) ++ [UInt8.ofNat (48 + u % 10)]:=by rw [Lib.decDigits,dif_neg h]
def preText : List (List UInt8) -> List UInt8
  | []=>[]
  | p :: r=>[45] ++ Lib.join (p :: r) [46]
theorem bl_inj {X Y : List ByteArray} (h : bl X = bl Y) : X = Y:=by
  induction X generalizing Y with
  | nil=>cases Y with
    | nil=>rfl
    | cons y r=>simp [bl] at h
  | cons x r ih=>cases Y with
    | nil=>simp [bl] at h
    | cons y s=>
      simp only [bl,List.map_cons,List.cons.injEq] at h
      rw [str_ext h.1,ih h.2]
theorem itoa_dec (a : Int) (h : 0 <= a) : Lib.itoa a = Lib.decDigits a.toNat:=by unfold Lib.itoa; rw [if_neg (by omega)]
def core (a b c : Int) : List UInt8:=Lib.itoa a ++ 46 :: (Lib.itoa b ++ 46 :: Lib.itoa c)
theorem core3_eq (a b c : Int) (l : List UInt8) : core3 a b c ++ l = 118 :: (core a b c ++ l):=by simp [core3,core]
theorem ordPs_step (X Y : List ByteArray) (k : Nat) (h1 : k < X.length) (h2 : k < Y.length) :
    ordPs (bl (X.drop k)) (bl (Y.drop k)) = fst (ordPart X[k].data.toList Y[k].data.toList) (ordPs (bl (X.drop (k + 1))) (bl (Y.drop (k + 1)))):=by
  rw [List.drop_eq_getElem_cons h1,List.drop_eq_getElem_cons h2]; rfl
theorem ordPs_long (X Y : List ByteArray) (k : Nat) (h1 : k < X.length) (h2 : k = Y.length) : ordPs (bl (X.drop k)) (bl (Y.drop k)) = 1:=by
  rw [List.drop_eq_getElem_cons h1,List.drop_eq_nil_of_le (show Y.length <= k by omega)]; rfl
theorem ordPs_short (X Y : List ByteArray) (k : Nat) (h1 : k = X.length) (h2 : k < Y.length) : ordPs (bl (X.drop k)) (bl (Y.drop k)) = -1:=by
  rw [List.drop_eq_nil_of_le (show X.length <= k by omega),List.drop_eq_getElem_cons h2]; rfl
theorem ordPs_end (X Y : List ByteArray) (k : Nat) (h1 : k = X.length) (h2 : k = Y.length) : ordPs (bl (X.drop k)) (bl (Y.drop k)) = 0:=by
  rw [List.drop_eq_nil_of_le (show X.length <= k by omega),List.drop_eq_nil_of_le (show Y.length <= k by omega)]; rfl
set_option maxHeartbeats 2000000 in
theorem cfunc_any (b0 b1 c0 c1 : Nat) (X Y : List ByteArray) (w : World) (hX : X.length <= 1000000) (hXs : ∀ x,x ∈ X -> x.size <= maxLen) (hYs : ∀ x,x ∈ Y -> x.size <= maxLen)
    (hc0 : ∀ j (h : j < X.length),w.cell? ⟨b0,0 + j,none⟩ = some (.string X[j])) (hc1 : ∀ j (h : j < Y.length),w.cell? ⟨b1,0 + j,none⟩ = some (.string Y[j])) :
    Calls Tryz.prog 209 #[.slice (some ⟨b0,0,none⟩) X.length c0,.slice (some ⟨b1,0,none⟩) Y.length c1,.func (.func 210) #[] #[]] w fun e w'=>e = .returned (.int .i64 (ordPs (bl X) (bl Y))) /\ Bw w.heap.size w w':=by
  have HXS:=hid hXs
  have HYS:=hid hYs
  have HC0:=hid hc0
  have HC1:=hid hc1
  clear hXs hYs hc0 hc1
  go_enter Tryz.func209,Tryz.ntmps209
  go_wp2_with fail
  go_loopw [13] (fun i wr=>∃ k : Nat,k <= X.length /\ k <= Y.length /\ i = .int .i64 k /\ Hid (ordPs (bl X) (bl Y) = ordPs (bl (X.drop k)) (bl (Y.drop k))) /\ Hid (Bw w.heap.size w wr)) (fun i _=>X.length - (intOf i).toNat)
  case atStart=>exact ⟨0,Nat.zero_le _,Nat.zero_le _,rfl,hid rfl,hid (Bw.refl _ _)⟩
  case round=>
    obtain ⟨k,hk,hk2,rfl,HO,HB⟩:=hrel
    by_cases hlt : k < X.length
    · by_cases hlt2 : k < Y.length
      · have hx : wr.cell? ⟨b0,k,none⟩ = some (.string X[k]):=by
          have:=HC0.out k hlt
          rw [Nat.zero_add] at this
          exact cell_below HB.out.be this
        have hy : wr.cell? ⟨b1,k,none⟩ = some (.string Y[k]):=by
          have:=HC1.out k hlt2
          rw [Nat.zero_add] at this
          exact cell_below HB.out.be this
        have HP:=hid (cpart_bw X[k] Y[k] wr (HXS.out _ (List.getElem_mem hlt)) (HYS.out _ (List.getElem_mem hlt2)))
        have HN:=hid (HO.out.trans (ordPs_step X Y k hlt hlt2))
        generalize hq : ordPart X[k].data.toList Y[k].data.toList = q at *
        clear hq HO
        by_cases hz : q = 0
        · subst hz
          go_wp2_with fail
          refine HP.out.mono ?_
          rintro e w1 ⟨rfl,hb1⟩
          have HB1:=hid (HB.out.trans (hb1.mono HB.out.size))
          clear hb1
          go_wp2_with fail
          go_roundw
          case rel=>exact ⟨k + 1,by omega,by omega,by go_num,hid (HN.out.trans (fst0 _)),HB1⟩
          case measure=>simp [intOf]; omega
        · have hqb : (q == 0) = false:=beq_eq_false_iff_ne.2 hz
          have HF:=hid (HN.out.trans (fst_ne _ hz))
          clear hz
          go_wp2_with fail
          refine HP.out.mono ?_
          rintro e w1 ⟨rfl,hb1⟩
          have HB1:=hid (HB.out.trans (hb1.mono HB.out.size))
          clear hb1
          go_wp2_with fail
          go_ret
          exact ⟨ret_int HF.out.symm,HB1.out⟩
      · have hx : wr.cell? ⟨b0,k,none⟩ = some (.string X[k]):=by
          have:=HC0.out k hlt
          rw [Nat.zero_add] at this
          exact cell_below HB.out.be this
        have HF:=hid (HO.out.trans (ordPs_long X Y k hlt (by omega)))
        clear HO
        go_wp2_with fail
        go_ret
        exact ⟨ret_int HF.out.symm,HB.out⟩
    · by_cases hlt2 : X.length < Y.length
      · have HF:=hid (HO.out.trans (ordPs_short X Y k (by omega) (by omega)))
        clear HO
        go_wp2_with fail
        go_ret
        exact ⟨ret_int HF.out.symm,HB.out⟩
      · have HF:=hid (HO.out.trans (ordPs_end X Y k (by omega) (by omega)))
        clear HO
        go_wp2_with fail
        go_ret
        exact ⟨ret_int HF.out.symm,HB.out⟩
theorem bl_nil {X : List ByteArray} : bl X = [] ↔ X = []:=by
  constructor
  · intro h; exact List.length_eq_zero_iff.1 (by rw [<- bl_len,h]; rfl)
  · intro h; rw [h]; rfl
set_option maxHeartbeats 1000000 in
theorem cpre_any (va vb : Value) (X Y : List ByteArray) (w : World) (hX : X.length <= 1000000) (hY : Y.length <= 1000000) (hXs : ∀ x,x ∈ X -> x.size <= maxLen) (hYs : ∀ x,x ∈ Y -> x.size <= maxLen) (ha : StrsAt w va X) (hb : StrsAt w vb Y) :
    Calls Tryz.prog 174 #[va,vb] w fun e w'=>e = .returned (.int .i64 (ordPre (bl X) (bl Y))) /\ Bw w.heap.size w w':=by
  rcases ha with ⟨rfl,rfl⟩ | ⟨hXn,b0,rfl,hb0,hc0⟩
  · obtain ⟨p,c,rfl⟩ : ∃ p c,vb = .slice p Y.length c:=by
      rcases hb with ⟨rfl,rfl⟩ | ⟨_,b,rfl,_⟩
      · exact ⟨none,0,rfl⟩
      · exact ⟨_,_,rfl⟩
    have HO:=hid (show ordPre (bl []) (bl Y) = Lib.compareInt (Y.length : Int) 0 by unfold ordPre; rw [if_pos (show bl [] = [] \/ bl Y = [] from Or.inl rfl),bl_len]; rfl)
    have HC:=hid (Tryz.cmp_Compare_int (Y.length : Int) 0 w)
    clear hb hXs hYs
    go_enter Tryz.func174,Tryz.ntmps174
    go_wp2_with fail
    refine HC.out.mono ?_
    rintro e w' ⟨rfl,rfl⟩
    go_wp2_with fail
    go_ret
    exact ⟨ret_int HO.out.symm,Bw.refl _ _⟩
  · have hl : 0 < X.length:=List.length_pos_iff.2 hXn
    have h0 : ((X.length : Int) == 0) = false:=beq_eq_false_iff_ne.2 (by omega)
    rcases hb with ⟨rfl,rfl⟩ | ⟨hYn,b1,rfl,hb1,hc1⟩
    · have HO:=hid (show ordPre (bl X) (bl []) = Lib.compareInt 0 (X.length : Int) by unfold ordPre; rw [if_pos (show bl X = [] \/ bl [] = [] from Or.inr rfl),bl_len X]; rfl)
      have HC:=hid (Tryz.cmp_Compare_int 0 (X.length : Int) w)
      clear hXs hYs hc0
      go_enter Tryz.func174,Tryz.ntmps174
      go_wp2_with fail
      refine HC.out.mono ?_
      rintro e w' ⟨rfl,rfl⟩
      go_wp2_with fail
      go_ret
      exact ⟨ret_int HO.out.symm,Bw.refl _ _⟩
    · have hl2 : 0 < Y.length:=List.length_pos_iff.2 hYn
      have h02 : ((Y.length : Int) == 0) = false:=beq_eq_false_iff_ne.2 (by omega)
      have HO:=hid (show ordPre (bl X) (bl Y) = ordPs (bl X) (bl Y) by unfold ordPre; rw [if_neg]; rintro (h | h); exact hXn (bl_nil.1 h); exact hYn (bl_nil.1 h))
      have HC:=hid (cfunc_any b0 b1 X.length Y.length X Y w hX hXs hYs hc0 hc1)
      clear hXs hYs hc0 hc1
      go_enter Tryz.func174,Tryz.ntmps174
      go_wp2_with fail
      refine HC.out.mono ?_
      rintro e w' ⟨rfl,hb⟩
      have HB:=hid hb
      clear hb
      go_wp2_with fail
      go_ret
      exact ⟨ret_int HO.out.symm,HB.out⟩
theorem d1_any (x y : Int) (A B : Nat) (w : World) (a0 : w.cell? ⟨A,0,none⟩ = some (.int .i64 x)) (b0 : w.cell? ⟨B,0,none⟩ = some (.int .i64 y)) :
    Calls Tryz.prog 169 #[.pointer (some ⟨A,0,none⟩),.pointer (some ⟨B,0,none⟩)] w fun e w'=>e = .returned (.int .i64 (Lib.compareInt x y)) /\ w' = w:=by
  have HC:=hid (Tryz.cmp_Compare_int x y w)
  go_enter Tryz.func169,Tryz.ntmps169
  go_wp2_with fail
  refine HC.out.mono ?_
  rintro e w' ⟨rfl,rfl⟩
  go_wp2_with fail
  go_ret
  exact ⟨rfl,rfl⟩
theorem d2_any (x y : Int) (A B : Nat) (w : World) (a0 : w.cell? ⟨A,1,none⟩ = some (.int .i64 x)) (b0 : w.cell? ⟨B,1,none⟩ = some (.int .i64 y)) :
    Calls Tryz.prog 171 #[.pointer (some ⟨A,0,none⟩),.pointer (some ⟨B,0,none⟩)] w fun e w'=>e = .returned (.int .i64 (Lib.compareInt x y)) /\ w' = w:=by
  have HC:=hid (Tryz.cmp_Compare_int x y w)
  go_enter Tryz.func171,Tryz.ntmps171
  go_wp2_with fail
  refine HC.out.mono ?_
  rintro e w' ⟨rfl,rfl⟩
  go_wp2_with fail
  go_ret
  exact ⟨rfl,rfl⟩
theorem d3_any (x y : Int) (A B : Nat) (w : World) (a0 : w.cell? ⟨A,2,none⟩ = some (.int .i64 x)) (b0 : w.cell? ⟨B,2,none⟩ = some (.int .i64 y)) :
    Calls Tryz.prog 172 #[.pointer (some ⟨A,0,none⟩),.pointer (some ⟨B,0,none⟩)] w fun e w'=>e = .returned (.int .i64 (Lib.compareInt x y)) /\ w' = w:=by
  have HC:=hid (Tryz.cmp_Compare_int x y w)
  go_enter Tryz.func172,Tryz.ntmps172
  go_wp2_with fail
  refine HC.out.mono ?_
  rintro e w' ⟨rfl,rfl⟩
  go_wp2_with fail
  go_ret
  exact ⟨rfl,rfl⟩
theorem d4_any (va vb : Value) (k : Int) (A B : Nat) (w : World) (a0 : w.cell? ⟨A,3,none⟩ = some va) (b0 : w.cell? ⟨B,3,none⟩ = some vb)
    (h : Calls Tryz.prog 174 #[va,vb] w fun e w'=>e = .returned (.int .i64 k) /\ Bw w.heap.size w w') :
    Calls Tryz.prog 173 #[.pointer (some ⟨A,0,none⟩),.pointer (some ⟨B,0,none⟩)] w fun e w'=>e = .returned (.int .i64 k) /\ Bw w.heap.size w w':=by
  have HC:=hid h
  clear h
  go_enter Tryz.func173,Tryz.ntmps173
  go_wp2_with fail
  refine HC.out.mono ?_
  rintro e w' ⟨rfl,hb⟩
  have HB:=hid hb
  clear hb
  go_wp2_with fail
  go_ret
  exact ⟨rfl,HB.out⟩
set_option maxHeartbeats 2000000 in
theorem first_four (k1 k2 k3 k4 : Int) (A B F : Nat) (w : World)
    (h1 : Calls Tryz.prog 169 #[.pointer (some ⟨A,0,none⟩),.pointer (some ⟨B,0,none⟩)] w fun e w'=>e = .returned (.int .i64 k1) /\ w' = w)
    (h2 : Calls Tryz.prog 171 #[.pointer (some ⟨A,0,none⟩),.pointer (some ⟨B,0,none⟩)] w fun e w'=>e = .returned (.int .i64 k2) /\ w' = w)
    (h3 : Calls Tryz.prog 172 #[.pointer (some ⟨A,0,none⟩),.pointer (some ⟨B,0,none⟩)] w fun e w'=>e = .returned (.int .i64 k3) /\ w' = w)
    (h4 : Calls Tryz.prog 173 #[.pointer (some ⟨A,0,none⟩),.pointer (some ⟨B,0,none⟩)] w fun e w'=>e = .returned (.int .i64 k4) /\ Bw w.heap.size w w')
    (f0 : w.cell? ⟨F,0,none⟩ = some (.func (.func 169) #[] #[.pointer (some ⟨A,0,none⟩),.pointer (some ⟨B,0,none⟩)])) (f1 : w.cell? ⟨F,1,none⟩ = some (.func (.func 171) #[] #[.pointer (some ⟨A,0,none⟩),.pointer (some ⟨B,0,none⟩)]))
    (f2 : w.cell? ⟨F,2,none⟩ = some (.func (.func 172) #[] #[.pointer (some ⟨A,0,none⟩),.pointer (some ⟨B,0,none⟩)])) (f3 : w.cell? ⟨F,3,none⟩ = some (.func (.func 173) #[] #[.pointer (some ⟨A,0,none⟩),.pointer (some ⟨B,0,none⟩)])) :
    Calls Tryz.prog 168 #[.slice (some ⟨F,0,none⟩) 4 4] w fun e w'=>e = .returned (.int .i64 (fst k1 (fst k2 (fst k3 k4)))) /\ Bw w.heap.size w w':=by
  have HX:=hid h1
  have HY:=hid h2
  have HZ:=hid h3
  have HP:=hid h4
  clear h1 h2 h3 h4
  by_cases z1 : k1 = 0
  · subst z1
    by_cases z2 : k2 = 0
    · subst z2
      by_cases z3 : k3 = 0
      · subst z3
        by_cases z4 : k4 = 0
        · subst z4
          go_enter Tryz.func168,Tryz.ntmps168
          go_wp2_with fail
          refine wp_loop_rounds 5 ?_
          rw [rounds_succ]
          go_wp2_with fail
          refine HX.out.mono ?_
          rintro e w' ⟨rfl,rfl⟩
          go_wp2_with fail
          rw [rounds_succ]
          go_wp2_with fail
          refine HY.out.mono ?_
          rintro e w' ⟨rfl,rfl⟩
          go_wp2_with fail
          rw [rounds_succ]
          go_wp2_with fail
          refine HZ.out.mono ?_
          rintro e w' ⟨rfl,rfl⟩
          go_wp2_with fail
          rw [rounds_succ]
          go_wp2_with fail
          refine HP.out.mono ?_
          rintro e w1 ⟨rfl,hb⟩
          have HB:=hid hb
          clear hb
          go_wp2_with fail
          rw [rounds_succ]
          go_wp2_with fail
          go_ret
          exact ⟨rfl,HB.out⟩
        · have b4 : (k4 == 0) = false:=beq_eq_false_iff_ne.2 z4
          clear z4
          go_enter Tryz.func168,Tryz.ntmps168
          go_wp2_with fail
          refine wp_loop_rounds 4 ?_
          rw [rounds_succ]
          go_wp2_with fail
          refine HX.out.mono ?_
          rintro e w' ⟨rfl,rfl⟩
          go_wp2_with fail
          rw [rounds_succ]
          go_wp2_with fail
          refine HY.out.mono ?_
          rintro e w' ⟨rfl,rfl⟩
          go_wp2_with fail
          rw [rounds_succ]
          go_wp2_with fail
          refine HZ.out.mono ?_
          rintro e w' ⟨rfl,rfl⟩
          go_wp2_with fail
          rw [rounds_succ]
          go_wp2_with fail
          refine HP.out.mono ?_
          rintro e w1 ⟨rfl,hb⟩
          have HB:=hid hb
          clear hb
          go_wp2_with fail
          go_ret
          exact ⟨ret_int rfl,HB.out⟩
      · have b3 : (k3 == 0) = false:=beq_eq_false_iff_ne.2 z3
        have HF:=hid (show fst 0 (fst 0 (fst k3 k4)) = k3 by rw [fst0,fst0,fst_ne _ z3])
        clear z3
        go_enter Tryz.func168,Tryz.ntmps168
        go_wp2_with fail
        refine wp_loop_rounds 3 ?_
        rw [rounds_succ]
        go_wp2_with fail
        refine HX.out.mono ?_
        rintro e w' ⟨rfl,rfl⟩
        go_wp2_with fail
        rw [rounds_succ]
        go_wp2_with fail
        refine HY.out.mono ?_
        rintro e w' ⟨rfl,rfl⟩
        go_wp2_with fail
        rw [rounds_succ]
        go_wp2_with fail
        refine HZ.out.mono ?_
        rintro e w' ⟨rfl,rfl⟩
        go_wp2_with fail
        go_ret
        exact ⟨ret_int HF.out.symm,Bw.refl _ _⟩
    · have b2 : (k2 == 0) = false:=beq_eq_false_iff_ne.2 z2
      have HF:=hid (show fst 0 (fst k2 (fst k3 k4)) = k2 by rw [fst0,fst_ne _ z2])
      clear z2
      go_enter Tryz.func168,Tryz.ntmps168
      go_wp2_with fail
      refine wp_loop_rounds 2 ?_
      rw [rounds_succ]
      go_wp2_with fail
      refine HX.out.mono ?_
      rintro e w' ⟨rfl,rfl⟩
      go_wp2_with fail
      rw [rounds_succ]
      go_wp2_with fail
      refine HY.out.mono ?_
      rintro e w' ⟨rfl,rfl⟩
      go_wp2_with fail
      go_ret
      exact ⟨ret_int HF.out.symm,Bw.refl _ _⟩
  · have b1 : (k1 == 0) = false:=beq_eq_false_iff_ne.2 z1
    have HF:=hid (fst_ne (fst k2 (fst k3 k4)) z1)
    clear z1
    go_enter Tryz.func168,Tryz.ntmps168
    go_wp2_with fail
    refine wp_loop_rounds 1 ?_
    rw [rounds_succ]
    go_wp2_with fail
    refine HX.out.mono ?_
    rintro e w' ⟨rfl,rfl⟩
    go_wp2_with fail
    go_ret
    exact ⟨ret_int HF.out.symm,Bw.refl _ _⟩
set_option maxHeartbeats 2000000 in
theorem compare_bw (x y z x' y' z' : Int) (va vb : Value) (X Y : List ByteArray) (w : World) (hX : X.length <= 1000000) (hY : Y.length <= 1000000) (hXs : ∀ x,x ∈ X -> x.size <= maxLen) (hYs : ∀ x,x ∈ Y -> x.size <= maxLen) (ha : StrsAt w va X) (hb : StrsAt w vb Y) :
    Calls Tryz.prog 126 #[.agg #[.int .i64 x,.int .i64 y,.int .i64 z,va],.agg #[.int .i64 x',.int .i64 y',.int .i64 z',vb]] w fun e w'=>e = .returned (.int .i64 (ordN x y z (bl X) x' y' z' (bl Y))) /\ Bw w.heap.size w w':=by
  have hmf : ∀ (fn : Fn) (first cap : Array Value) (w : World),(Instr.makeFunc fn first cap).run Tryz.prog w = .ok (.func fn first cap) w:=fun _ _ _ _=>rfl
  have HXS:=hid hXs
  have HYS:=hid hYs
  have HA:=hid ha
  have HB:=hid hb
  obtain ⟨pa,na,ca,rfl⟩ : ∃ p n c,va = .slice p n c:=by
    rcases ha with ⟨_,rfl⟩ | ⟨_,b,rfl,_⟩ <;> exact ⟨_,_,_,rfl⟩
  obtain ⟨pb,nb,cb,rfl⟩ : ∃ p n c,vb = .slice p n c:=by
    rcases hb with ⟨_,rfl⟩ | ⟨_,b,rfl,_⟩ <;> exact ⟨_,_,_,rfl⟩
  clear hXs hYs ha hb
  go_enter Tryz.func126,Tryz.ntmps126
  go_wp2_with fail
  refine (first_four (Lib.compareInt x x') (Lib.compareInt y y') (Lib.compareInt z z') (ordPre (bl X) (bl Y)) w.heap.size (w.heap.size + 1) (w.heap.size + 1 + 1) _ (d1_any x x' _ _ _ ?_ ?_) (d2_any y y' _ _ _ ?_ ?_) (d3_any z z' _ _ _ ?_ ?_) (d4_any _ _ _ _ _ _ ?_ ?_ (cpre_any _ _ X Y _ hX hY HXS.out HYS.out (HA.out.below ?_) (HB.out.below ?_))) ?_ ?_ ?_ ?_).mono ?_
  · exact (three w _ _ _ _ _ 0).1.trans rfl
  · exact (three w _ _ _ _ _ 0).2.1.trans rfl
  · exact (three w _ _ _ _ _ 1).1.trans rfl
  · exact (three w _ _ _ _ _ 1).2.1.trans rfl
  · exact (three w _ _ _ _ _ 2).1.trans rfl
  · exact (three w _ _ _ _ _ 2).2.1.trans rfl
  · exact (three w _ _ _ _ _ 3).1.trans rfl
  · exact (three w _ _ _ _ _ 3).2.1.trans rfl
  · exact (((Below.refl _ _).alloc (Nat.le_refl _) _).alloc (by simp) _).alloc (by simp; omega) _
  · exact (((Below.refl _ _).alloc (Nat.le_refl _) _).alloc (by simp) _).alloc (by simp; omega) _
  · exact (three w _ _ _ _ _ 0).2.2.trans rfl
  · exact (three w _ _ _ _ _ 1).2.2.trans rfl
  · exact (three w _ _ _ _ _ 2).2.2.trans rfl
  · exact (three w _ _ _ _ _ 3).2.2.trans rfl
  rintro e w1 ⟨rfl,hb⟩
  have HBF:=hid ((((((Bw.refl w.heap.size w).alloc (Nat.le_refl _) _).alloc (by simp) _).alloc (by simp; omega) _).trans (hb.mono (by simp; omega))))
  clear hb
  go_wp2_with fail
  go_ret
  exact ⟨rfl,HBF.out⟩
theorem compare_any (x y z x' y' z' : Int) (va vb : Value) (X Y : List ByteArray) (w : World) (hX : X.length <= 1000000) (hY : Y.length <= 1000000) (hXs : ∀ x,x ∈ X -> x.size <= maxLen) (hYs : ∀ x,x ∈ Y -> x.size <= maxLen) (ha : StrsAt w va X) (hb : StrsAt w vb Y) :
    Calls Tryz.prog 126 #[.agg #[.int .i64 x,.int .i64 y,.int .i64 z,va],.agg #[.int .i64 x',.int .i64 y',.int .i64 z',vb]] w fun e w'=>e = .returned (.int .i64 (ordN x y z (bl X) x' y' z' (bl Y))) /\ Below w.heap.size w w':=
  (compare_bw x y z x' y' z' va vb X Y w hX hY hXs hYs ha hb).mono fun _ _ h=>⟨h.1,h.2.be⟩
theorem textOf_pre (a b c : Int) (ps : List (List UInt8)) : textOf a b c ps = if inBB a && inBB b && inBB c && pre ps == 0 then core3 a b c ++ preText ps else []:=by
  unfold textOf
  cases ps with
  | nil=>simp [preText]
  | cons p r=>simp [preText]
theorem errV_ne {c : Nat} (aT aB : Addr) (h : c ≠ 0) : ∃ a,errV aT aB c = .iface 319 (.pointer (some a)):=by
  unfold errV
  rw [if_neg h]
  split
  · exact ⟨aT,rfl⟩
  · exact ⟨aB,rfl⟩
theorem StrsAt.slice {w : World} {v : Value} {X : List ByteArray} (h : StrsAt w v X) : ∃ p n c,v = .slice p n c:=by
  rcases h with ⟨_,rfl⟩ | ⟨_,b,rfl,_⟩ <;> exact ⟨_,_,_,rfl⟩
def GoodP (w w' : World) (e : Ending) (x y z : Int) (X : List ByteArray) : Prop:=
  ∃ v,e = .returned (.tuple #[.agg #[.int .i64 x,.int .i64 y,.int .i64 z,v],.nilIface]) /\ StrsAt w' v X /\ Below w.heap.size w w'
theorem vsplit_is (s : ByteArray) (aT aB : Addr) (m : Int) (w : World) (hs : s.size < 4294967281) (S : Vs w aT aB m) (h : verErr s.data.toList = 0) (X : List ByteArray) (hX : bl X = preOf s.data.toList) :
    Calls Tryz.prog 125 #[.string s] w fun e w'=>GoodP w w' e (nAt s.data.toList 0) (nAt s.data.toList 1) (nAt s.data.toList 2) X:=
  (vsplit_good s aT aB m w hs S h).mono fun e w' ⟨v,X2,h1,h2,h3,h4⟩=>by
    obtain rfl : X2 = X:=bl_inj (h2.trans hX.symm)
    exact ⟨v,h1,h3,h4⟩
def BadP (w w' : World) (e : Ending) : Prop:=
  ∃ a,e = .returned (.tuple #[.agg #[.int .i64 0,.int .i64 0,.int .i64 0,.slice none 0 0],.iface 319 (.pointer (some a))]) /\ Below w.heap.size w w'
theorem vsplit_not (s : ByteArray) (aT aB : Addr) (m : Int) (w : World) (hs : s.size < 4294967281) (S : Vs w aT aB m) (h : verErr s.data.toList ≠ 0) :
    Calls Tryz.prog 125 #[.string s] w fun e w'=>BadP w w' e:=
  (vsplit_bad s aT aB m w hs S h).mono fun e w' ⟨h1,h2⟩=>by
    obtain ⟨a,ha⟩:=errV_ne aT aB h
    exact ⟨a,by rw [h1,ha],h2⟩
def strs (ps : List (List UInt8)) : List ByteArray:=ps.map fun p=>⟨p.toArray⟩
theorem bl_strs (ps : List (List UInt8)) : bl (strs ps) = ps:=by
  unfold bl strs
  rw [List.map_map]
  conv=>rhs; rw [<- List.map_id ps]
  apply List.map_congr_left
  intro p _
  rfl
theorem pre_len {l : List UInt8} : (preOf l).length <= l.length + 1:=by
  unfold preOf
  split
  · have:=cutAt_many 46 (one 45 (restOf l)).2.1
    have h2:=(one_le 45 (restOf l)).2
    have h3:=restOf_le l
    omega
  · simp
theorem pre_size {l p : List UInt8} (h : p ∈ preOf l) : p.length <= l.length:=by
  unfold preOf at h
  split at h
  · have:=cutAt_le 46 _ p h
    have h2:=(one_le 45 (restOf l)).2
    have h3:=restOf_le l
    omega
  · simp at h
def sufOk (l : List UInt8) : Bool:=decide ((num (restOf l)).2 = 0) && decide (2 <= (num (restOf l)).1)
theorem trimV_any (s : ByteArray) (w : World) : Calls Tryz.prog 224 #[.string s,.string ⟨#[118]⟩] w fun e w'=>∃ R : ByteArray,e = .returned (.string R) /\ R.data.toList = restOf s.data.toList /\ w' = w:=
  (Tryz.strings_TrimPrefix s ⟨#[118]⟩ w).mono fun e w' ⟨h1,h2⟩=>⟨_,h1,by
    have e0 : (⟨#[118]⟩ : ByteArray).data.toList = [118]:=rfl
    rw [e0,trimPrefix_v],h2⟩
set_option maxHeartbeats 1000000 in
theorem suffix_any (s : ByteArray) (A : Nat -> Addr) (m : Int) (w : World) (hs : s.size < 4294967281) (S : Te w A m) :
    Calls Tryz.prog 186 #[.string s] w fun e w'=>e = .returned (.tuple #[.int .i64 (if sufOk s.data.toList then (num (restOf s.data.toList)).1 else 0),if sufOk s.data.toList then .nilIface else .iface 319 (.pointer (some (A 3)))]) /\ Below w.heap.size w w':=by
  have HO:=hid (show sufOk s.data.toList = (decide ((num (restOf s.data.toList)).2 = 0) && decide (2 <= (num (restOf s.data.toList)).1)) from rfl)
  have HS:=hid S
  have HT:=hid (trimV_any s w)
  have HN:=hid (fun (R : ByteArray) (h : R.data.toList = restOf s.data.toList) W (SW : Te W A m)=>num_any R (A 0) (A 1) m W (by
      have h1:=size_of h
      have h2:=restOf_le s.data.toList
      simp at h2; unfold maxLen; omega) SW.vs)
  have HE:=hid (num_err (restOf s.data.toList))
  clear S
  by_cases h1 : (num (restOf s.data.toList)).2 = 0
  · by_cases h2 : 2 <= (num (restOf s.data.toList)).1
    · have HK:=hid (show sufOk s.data.toList = true by rw [HO.out,decide_eq_true h1,decide_eq_true h2]; rfl)
      have H1:=hid h1
      rw [HK.out]
      clear h1
      go_enter Tryz.func186,Tryz.ntmps186
      go_wp2_with fail
      refine HT.out.mono ?_
      rintro e w' ⟨R,rfl,hR,rfl⟩
      have HR:=hid hR
      clear hR
      go_wp2_with fail
      refine (HN.out R HR.out _ HS.out).mono ?_
      rintro e w1 ⟨rfl,hb1⟩
      rw [HR.out,H1.out,errV0]
      have HB:=hid hb1
      clear hb1
      generalize hn : (num (restOf s.data.toList)).1 = n at *
      have HNN:=hid hn
      clear hn
      go_wp2_with fail
      go_ret2
      exact ⟨by rw [<- HNN.out]; rfl,HB.out⟩
    · have HK:=hid (show sufOk s.data.toList = false by rw [HO.out,decide_eq_false h2]; simp)
      have H1:=hid h1
      rw [HK.out]
      clear h1
      go_enter Tryz.func186,Tryz.ntmps186
      go_wp2_with fail
      refine HT.out.mono ?_
      rintro e w' ⟨R,rfl,hR,rfl⟩
      have HR:=hid hR
      clear hR
      go_wp2_with fail
      refine (HN.out R HR.out _ HS.out).mono ?_
      rintro e w1 ⟨rfl,hb1⟩
      rw [HR.out,H1.out,errV0]
      have HB:=hid hb1
      have g3:=(HS.out.below hb1).sen.g3
      clear hb1
      generalize (num (restOf s.data.toList)).1 = n at *
      go_wp2_with fail
      go_quiet (fail)
      go_wp2_with fail
      go_ret2
      exact ⟨rfl,HB.out.trans ((below_drawn _ _).mono HB.out.size)⟩
  · have HK:=hid (show sufOk s.data.toList = false by rw [HO.out,decide_eq_false h1]; rfl)
    have H1:=hid h1
    rw [HK.out]
    clear h1
    go_enter Tryz.func186,Tryz.ntmps186
    go_wp2_with fail
    refine HT.out.mono ?_
    rintro e w' ⟨R,rfl,hR,rfl⟩
    have HR:=hid hR
    clear hR
    go_wp2_with fail
    refine (HN.out R HR.out _ HS.out).mono ?_
    rintro e w1 ⟨rfl,hb1⟩
    rw [HR.out]
    have HB:=hid hb1
    have g3:=(HS.out.below hb1).sen.g3
    clear hb1
    obtain ⟨a9,ha9⟩ : ∃ a,errV (A 0) (A 1) (num (restOf s.data.toList)).2 = .iface 319 (.pointer (some a)):=by
      rcases HE.out with h | h | h
      · exact absurd h H1.out
      · exact ⟨_,by rw [h]; rfl⟩
      · exact ⟨_,by rw [h]; rfl⟩
    rw [ha9]
    clear ha9
    generalize (num (restOf s.data.toList)).1 = n at *
    go_wp2_with fail
    go_quiet (fail)
    go_wp2_with fail
    go_ret2
    exact ⟨rfl,HB.out.trans ((below_drawn _ _).mono HB.out.size)⟩
theorem val_dec : ∀ (n : Nat) (p : List UInt8),p.length = n + 1 -> p.all dig = true -> (n = 0 \/ p.headD 0 ≠ 48) -> Lib.decDigits (valTo 0 p).toNat = p
  | 0,p,hl,hd,_=>by
    obtain ⟨c,rfl⟩:=List.length_eq_one_iff.1 hl
    have hc : dig c = true:=by simpa using hd
    have hb:=dig_bd hc
    have : valTo 0 [c] = (c.toNat : Int) - 48:=by simp [valTo]
    rw [this,Lib.decDigits_one (by omega)]
    congr 1
    apply UInt8.toNat_inj.1
    rw [show 48 + ((c.toNat : Int) - 48).toNat = c.toNat by omega]
    simp
  | n + 1,p,hl,hd,hz=>by
    have hne : p ≠ []:=by intro h; subst h; simp at hl
    obtain ⟨q,c,rfl⟩ : ∃ q c,p = q ++ [c]:=⟨p.dropLast,p.getLast hne,(List.dropLast_concat_getLast hne).symm⟩
    rw [all_snoc,Bool.and_eq_true] at hd
    have hql : q.length = n + 1:=by simpa using hl
    have hh : q.headD 0 ≠ 48:=by
      rcases hz with h | h
      · cases h
      · cases q with
        | nil=>simp at hql
        | cons x r=>simpa using h
    have ih:=val_dec n q hql hd.1 (Or.inr hh)
    have hb:=dig_bd hd.2
    have hpos : 1 <= valTo 0 q:=by
      cases q with
      | nil=>simp at hql
      | cons x r=>
        have hx:=dig_bd (c:=x) (by have:=hd.1; simp at this; exact this.1)
        have hx0 : x ≠ 48:=by simpa using hh
        have hx1 : x.toNat ≠ 48:=fun e=>hx0 (UInt8.toNat_inj.1 (by rw [e]; rfl))
        have h2:=(valTo_bd r ((x.toNat : Int) - 48) (by have:=hd.1; simp only [List.all_cons,Bool.and_eq_true] at this; exact this.2) (by omega)).1
        have h3 : valTo 0 (x :: r) = valTo ((x.toNat : Int) - 48) r:=by simp [valTo]
        have h4 : (1 : Int) <= 10 ^ r.length:=by
          have : (0 : Int) < 10 ^ r.length:=Int.pow_pos (by omega)
          omega
        rw [h3]
        have h5 : (1 : Int) * 1 <= ((x.toNat : Int) - 48) * 10 ^ r.length:=Int.mul_le_mul (by omega) h4 (by omega) (by omega)
        omega
    rw [valTo_snoc]
    have e1 : (10 * valTo 0 q + ((c.toNat : Int) - 48)).toNat / 10 = (valTo 0 q).toNat:=by omega
    have e2 : (10 * valTo 0 q + ((c.toNat : Int) - 48)).toNat % 10 = c.toNat - 48:=by omega
    rw [dec_big (by omega),e1,e2,ih]
    congr 2
    apply UInt8.toNat_inj.1
    rw [show 48 + (c.toNat - 48) = c.toNat by omega]
    simp
theorem itoa_num (p : List UInt8) (h : (num p).2 = 0) : Lib.itoa (num p).1 = p /\ 0 <= (num p).1 /\ (num p).1 <= 999999:=by
  have hd : digs p = true:=by
    cases e : digs p
    · unfold num at h; rw [e] at h; simp at h
    · rfl
  have hz : zero p = false:=by
    cases e : zero p
    · rfl
    · unfold num at h; rw [e] at h; simp at h
  have hs:=num_six p hd hz
  by_cases h6 : 6 < p.length
  · rw [if_pos h6] at hs; rw [hs] at h; cases h
  · rw [if_neg h6] at hs
    have hda : p.all dig = true:=by unfold digs at hd; simp only [Bool.and_eq_true] at hd; exact hd.2
    have hpos : 0 < p.length:=by unfold digs at hd; simp only [Bool.and_eq_true,decide_eq_true_eq] at hd; exact hd.1
    have hb:=val_le p hda (by omega)
    rw [hs]
    refine ⟨?_,hb.1,by show valTo 0 p <= 999999; omega⟩
    show Lib.itoa (valTo 0 p) = p
    rw [itoa_dec _ hb.1]
    refine val_dec (p.length - 1) p (by omega) hda ?_
    by_cases h1 : p.length - 1 = 0
    · exact Or.inl h1
    · refine Or.inr fun e=>?_
      unfold zero at hz
      rw [e] at hz
      simp at hz
      omega
theorem joinTail_ne {c : UInt8} : ∀ X : List (List UInt8),X ≠ [] -> Lib.joinTail [c] X = c :: Lib.join X [c]
  | [],h=>absurd rfl h
  | x :: r,_=>by rw [Lib.join_cons]; simp [Lib.joinTail]
theorem join_cut (c : UInt8) (l : List UInt8) : Lib.join (cutAt c l) [c] = l:=by
  induction l with
  | nil=>simp [cutAt,Lib.join_one]
  | cons b l ih=>
    unfold cutAt
    by_cases h : b = c
    · rw [if_pos h,Lib.join_cons,joinTail_ne _ (cutAt_ne c l),ih,h]; rfl
    · rw [if_neg h]
      obtain ⟨x,r,e⟩ : ∃ x r,cutAt c l = x :: r:=by
        cases e : cutAt c l with
        | nil=>exact absurd e (cutAt_ne c l)
        | cons x r=>exact ⟨x,r,rfl⟩
      rw [e] at ih ⊢
      rw [Lib.join_cons] at ih
      simp only [ahead,Lib.join_cons]
      rw [<- ih]
      simp
theorem one_back {c : UInt8} {l : List UInt8} (h : (one c l).2.2 = true) : l = (one c l).1 ++ c :: (one c l).2.1:=by
  obtain ⟨j,hj,e,_,e1,e2⟩:=one_yes (c:=c) (l:=l) h
  rw [e1,e2,<- e,List.getElem_cons_drop,List.take_append_drop]
theorem one_none {c : UInt8} {l : List UInt8} (h : (one c l).2.2 = false) : (one c l).1 = l:=by rw [one_no h]
theorem worst0 {b : Nat} {cs : List Nat} (h : worst b cs = 0) : 1 ∉ cs /\ 2 ∉ cs:=by
  unfold worst at h
  by_cases h1 : b = 1 \/ 1 ∈ cs
  · rw [if_pos h1] at h; omega
  · rw [if_neg h1] at h
    by_cases h2 : b = 2 \/ 2 ∈ cs
    · rw [if_pos h2] at h; omega
    · exact ⟨fun h=>h1 (Or.inr h),fun h=>h2 (Or.inr h)⟩
theorem ncode0 {ps : List (List UInt8)} (h : numsErr ps = 0) : ∀ p,p ∈ ps -> (num p).2 = 0:=by
  intro p hp
  rw [numsErr_ncode] at h
  obtain ⟨h1,h2⟩:=worst0 h
  have hm : ncode p ∈ ps.map ncode:=List.mem_map_of_mem hp
  rcases num_err p with e | e | e
  · exact e
  · exact absurd (show ncode p = 1 from e) (fun e=>h1 (e ▸ hm))
  · exact absurd (show ncode p = 2 from e) (fun e=>h2 (e ▸ hm))
theorem text_back (l : List UInt8) (h : verErr l = 0) : textOf (nAt l 0) (nAt l 1) (nAt l 2) (preOf l) = l:=by
  unfold verErr at h
  by_cases hc : marked l = false \/ (coreOf l).length ≠ 3
  · rw [if_pos hc] at h; omega
  rw [if_neg hc] at h
  have hm : marked l = true:=by
    cases e : marked l
    · exact absurd (Or.inl e) hc
    · rfl
  have h3 : (coreOf l).length = 3:=by
    rcases Nat.decEq (coreOf l).length 3 with h | h
    · exact absurd (Or.inr h) hc
    · exact h
  have hl : l = 118 :: restOf l:=by
    rw [rest_drop hm]
    cases l with
    | nil=>cases hm
    | cons b r=>
      have : b = 118:=by simpa [marked] using hm
      rw [this]; rfl
  obtain ⟨hn,hp⟩ : numsErr (coreOf l) = 0 /\ pre (preOf l) = 0:=by
    cases e : hasPre l
    · rw [e] at h
      exact ⟨h,by unfold preOf; rw [e]; rfl⟩
    · rw [e] at h
      have h' : worse (numsErr (coreOf l)) (pre (preOf l)) = 0:=h
      unfold worse at h'
      by_cases q : numsErr (coreOf l) = 1 \/ pre (preOf l) = 0
      · rw [if_pos q] at h'
        refine ⟨h',?_⟩
        rcases q with q | q
        · omega
        · exact q
      · rw [if_neg q] at h'; exact absurd (Or.inr h') q
  obtain ⟨p0,p1,p2,hco⟩ : ∃ p0 p1 p2,coreOf l = [p0,p1,p2]:=by
    match e : coreOf l,h3 with
    | [a,b,c],_=>exact ⟨a,b,c,rfl⟩
  have hz:=ncode0 hn
  rw [hco] at hz
  have n0 : nAt l 0 = (num p0).1:=by simp [nAt,numsOf,hco]
  have n1 : nAt l 1 = (num p1).1:=by simp [nAt,numsOf,hco]
  have n2 : nAt l 2 = (num p2).1:=by simp [nAt,numsOf,hco]
  obtain ⟨i0,l0,u0⟩:=itoa_num p0 (hz p0 (by simp))
  obtain ⟨i1,l1,u1⟩:=itoa_num p1 (hz p1 (by simp))
  obtain ⟨i2,l2,u2⟩:=itoa_num p2 (hz p2 (by simp))
  have hin : (inBB (num p0).1 && inBB (num p1).1 && inBB (num p2).1) = true:=by simp [inBB,l0,u0,l1,u1,l2,u2]
  have hj : (one 45 (restOf l)).1 = core (num p0).1 (num p1).1 (num p2).1:=by
    have e:=join_cut 46 (one 45 (restOf l)).1
    have hco' : cutAt 46 (one 45 (restOf l)).1 = [p0,p1,p2]:=hco
    rw [hco'] at e
    rw [<- e,Lib.join_cons]
    unfold core
    rw [i0,i1,i2]
    simp [Lib.joinTail]
  rw [n0,n1,n2,textOf_pre,hin,hp]
  show core3 _ _ _ ++ preText (preOf l) = l
  rw [core3_eq]
  conv=>rhs; rw [hl]
  congr 1
  cases e : hasPre l
  · have e1 : (one 45 (restOf l)).2.2 = false:=e
    have e2:=one_none e1
    have e3 : preOf l = []:=by unfold preOf; rw [e]; rfl
    rw [e3,<- hj,e2]
    simp [preText]
  · have e1 : (one 45 (restOf l)).2.2 = true:=e
    have e2:=one_back e1
    have e3 : preOf l = cutAt 46 (one 45 (restOf l)).2.1:=by unfold preOf; rw [e]; rfl
    have e4 : preText (preOf l) = 45 :: (one 45 (restOf l)).2.1:=by
      rw [e3]
      have e5:=join_cut 46 (one 45 (restOf l)).2.1
      obtain ⟨x,r,ex⟩ : ∃ x r,cutAt 46 (one 45 (restOf l)).2.1 = x :: r:=by
        cases ex : cutAt 46 (one 45 (restOf l)).2.1 with
        | nil=>exact absurd ex (cutAt_ne _ _)
        | cons x r=>exact ⟨x,r,rfl⟩
      rw [ex] at e5 ⊢
      simp only [preText]
      rw [e5]; rfl
    rw [e4,<- hj]
    exact e2.symm
end Ve
end Go.Proofs.YtlcffhadobhfkaaGreatDoor
