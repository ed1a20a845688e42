/-
  VerS LessAny Ahead ModQ ModD FileP FileA
-/
import Derived.Test.YtlcffhadobhfkaaGreatDoorMq2
import Derived.Test.YtlcffhadobhfkaaGreatDoorMq6
import Derived.Test.YtlcffhadobhfkaaGreatDoorMq9
import Derived.Test.YtlcffhadobhfkaaGreatDoorMq16
import Derived.Test.YtlcffhadobhfkaaGreatDoorMq5
import Derived.Test.YtlcffhadobhfkaaGreatDoorMq3
import Derived.Test.YtlcffhadobhfkaaGreatDoorMq11
import Derived.Test.YtlcffhadobhfkaaGreatDoorMq8
namespace Go.Proofs.YtlcffhadobhfkaaGreatDoor
namespace Ve
theorem fst_lt {a b : Int} : fst a b < 0 ↔ a < 0 \/ a = 0 /\ b < 0:=by
  unfold fst
  by_cases h : a = 0
  · rw [if_pos h]; subst h; simp
  · rw [if_neg h]; simp [h]
theorem lex_trans {a1 a2 a3 b1 b2 b3 : Int} (h12 : a1 < 0 -> a2 < 0 -> a3 < 0) (h0l : a1 = 0 -> a3 = a2) (h0r : a2 = 0 -> a3 = a1) (hb : a1 = 0 -> a2 = 0 -> b1 < 0 -> b2 < 0 -> b3 < 0) :
    fst a1 b1 < 0 -> fst a2 b2 < 0 -> fst a3 b3 < 0:=by
  rw [fst_lt,fst_lt,fst_lt]
  rintro (h1 | ⟨h1,k1⟩) (h2 | ⟨h2,k2⟩)
  · exact Or.inl (h12 h1 h2)
  · exact Or.inl (by rw [h0r h2]; exact h1)
  · exact Or.inl (by rw [h0l h1]; exact h2)
  · exact Or.inr ⟨by rw [h0l h1]; exact h2,hb h1 h2 k1 k2⟩
theorem ci_trans {x y z : Int} (h1 : Lib.compareInt x y < 0) (h2 : Lib.compareInt y z < 0) : Lib.compareInt x z < 0:=by
  have e1 : x < y:=by
    unfold Lib.compareInt at h1
    split at h1
    · assumption
    · split at h1 <;> omega
  have e2 : y < z:=by
    unfold Lib.compareInt at h2
    split at h2
    · assumption
    · split at h2 <;> omega
  rw [ci_lt (by omega)]; decide
theorem cb_trans : ∀ (a b c : List UInt8),Lib.compareBytes a b < 0 -> Lib.compareBytes b c < 0 -> Lib.compareBytes a c < 0
  | [],[],_,h,_=>by simp [Lib.compareBytes] at h
  | [],_ :: _,[],_,h=>by simp [Lib.compareBytes] at h
  | [],_ :: _,_ :: _,_,_=>by simp [Lib.compareBytes]
  | _ :: _,[],_,h,_=>by simp [Lib.compareBytes] at h
  | _ :: _,_ :: _,[],_,h=>by simp [Lib.compareBytes] at h
  | x :: a,y :: b,z :: c,h1,h2=>by
    unfold Lib.compareBytes at h1 h2 ⊢
    by_cases h3 : x < y
    · by_cases h4 : y < z
      · rw [if_pos (UInt8.lt_trans h3 h4)]; decide
      · rw [if_neg h4] at h2
        by_cases h5 : z < y
        · rw [if_pos h5] at h2; omega
        · have:=u8_eq h4 h5
          subst this
          rw [if_pos h3]; decide
    · rw [if_neg h3] at h1
      by_cases h4 : y < x
      · rw [if_pos h4] at h1; omega
      · rw [if_neg h4] at h1
        have:=u8_eq h3 h4
        subst this
        by_cases h5 : x < z
        · rw [if_pos h5]; decide
        · rw [if_neg h5] at h2 ⊢
          by_cases h6 : z < x
          · rw [if_pos h6] at h2; omega
          · rw [if_neg h6] at h2 ⊢
            exact cb_trans a b c h1 h2
theorem ordPart_trans {a b c : List UInt8} (h1 : ordPart a b < 0) (h2 : ordPart b c < 0) : ordPart a c < 0:=by
  unfold ordPart at *
  cases ha : digs a <;> cases hb : digs b <;> cases hc : digs c <;> rw [ha,hb] at h1 <;> rw [hb,hc] at h2
  · exact cb_trans _ _ _ h1 h2
  · exact absurd (show (1 : Int) < 0 from h2) (by decide)
  · exact absurd (show (1 : Int) < 0 from h1) (by decide)
  · exact absurd (show (1 : Int) < 0 from h1) (by decide)
  · show (-1 : Int) < 0; decide
  · exact absurd (show (1 : Int) < 0 from h2) (by decide)
  · show (-1 : Int) < 0; decide
  · refine lex_trans (fun h k=>ci_trans h k) ?_ ?_ (fun _ _ h k=>cb_trans _ _ _ h k) h1 h2
    · intro h; rw [(ci_zero _ _).1 h]
    · intro h; rw [(ci_zero _ _).1 h]
theorem ordPs_trans : ∀ (a b c : List (List UInt8)),ordPs a b < 0 -> ordPs b c < 0 -> ordPs a c < 0
  | [],[],_,h,_=>by simp [ordPs] at h
  | [],_ :: _,[],_,h=>by simp [ordPs] at h
  | [],_ :: _,_ :: _,_,_=>by simp [ordPs]
  | _ :: _,[],_,h,_=>by simp [ordPs] at h
  | _ :: _,_ :: _,[],_,h=>by simp [ordPs] at h
  | x :: a,y :: b,z :: c,h1,h2=>by
    unfold ordPs at h1 h2 ⊢
    refine lex_trans (fun h k=>ordPart_trans h k) ?_ ?_ (fun _ _ h k=>ordPs_trans a b c h k) h1 h2
    · intro h; rw [(ordPart_zero _ _).1 h]
    · intro h; rw [(ordPart_zero _ _).1 h]
theorem ordPre_trans {a b c : List (List UInt8)} (h1 : ordPre a b < 0) (h2 : ordPre b c < 0) : ordPre a c < 0:=by
  unfold ordPre at *
  by_cases ha : a = []
  · subst ha
    rw [if_pos (Or.inl rfl)] at h1
    exfalso
    have : ¬ Lib.compareInt (b.length : Int) (([] : List (List UInt8)).length : Int) < 0:=by
      unfold Lib.compareInt
      split
      · rename_i h; simp at h; omega
      · split <;> omega
    exact this h1
  · by_cases hb : b = []
    · subst hb
      rw [if_pos (Or.inl rfl)] at h2
      exfalso
      have : ¬ Lib.compareInt (c.length : Int) (([] : List (List UInt8)).length : Int) < 0:=by
        unfold Lib.compareInt
        split
        · rename_i h; simp at h; omega
        · split <;> omega
      exact this h2
    · by_cases hc : c = []
      · subst hc
        rw [if_pos (Or.inr rfl)]
        rw [ci_lt (by have:=List.length_pos_iff.2 ha; simp; omega)]; decide
      · rw [if_neg (by rintro (h | h); exact ha h; exact hb h)] at h1
        rw [if_neg (by rintro (h | h); exact hb h; exact hc h)] at h2
        rw [if_neg (by rintro (h | h); exact ha h; exact hc h)]
        exact ordPs_trans a b c h1 h2
theorem ordV_trans {s t u : List UInt8} (h1 : ordV s t < 0) (h2 : ordV t u < 0) : ordV s u < 0:=by
  unfold ordV ordN at *
  refine lex_trans (fun h k=>ci_trans h k) ?_ ?_ (fun _ _=>lex_trans (fun h k=>ci_trans h k) ?_ ?_ (fun _ _=>lex_trans (fun h k=>ci_trans h k) ?_ ?_ (fun _ _ h k=>ordPre_trans h k))) h1 h2
  all_goals (intro h; rw [(ci_zero _ _).1 h])
open Go.RowKit
def lessB (s t : List UInt8) : Bool:=decide (verErr s = 0) && (decide (verErr t = 0) && decide (ordV s t < 0))
set_option maxHeartbeats 1000000 in
theorem less_11 (k : Int) (x y z x' y' z' : Int) (X Y : List ByteArray) (s t : ByteArray) (aT aB : Addr) (m : Int) (w : World) (S : Vs w aT aB m)
    (hA : Calls Tryz.prog 125 #[.string s] w fun e w'=>GoodP w w' e x y z X) (hT : ∀ W,Vs W aT aB m -> Calls Tryz.prog 125 #[.string t] W fun e w'=>GoodP W w' e x' y' z' Y)
    (hC : ∀ W va vb,StrsAt W va X -> StrsAt W vb Y -> Calls Tryz.prog 126 #[.agg #[.int .i64 x,.int .i64 y,.int .i64 z,va],.agg #[.int .i64 x',.int .i64 y',.int .i64 z',vb]] W fun e w'=>e = .returned (.int .i64 k) /\ Below W.heap.size W w') :
    Calls Tryz.prog 80 #[.string s,.string t] w fun e w'=>e = .returned (.bool (decide (k < 0))) /\ Below w.heap.size w w':=by
  have HC:=hid hC
  clear hC
  have HA:=hid hA
  have HT:=hid hT
  have HS:=hid S
  clear hA hT S
  go_enter Tryz.func80,Tryz.ntmps80
  go_wp2_with fail
  refine HA.out.mono ?_
  rintro e w1 ⟨v,rfl,hst,hb1⟩
  obtain ⟨pa,na,ca,rfl⟩:=hst.slice
  have HST:=hid hst
  clear hst
  have HB1:=hid hb1
  have HB2:=hid ((Below.refl w1.heap.size w1).alloc (Nat.le_refl _) (.cells #[.int .i64 x,.int .i64 y,.int .i64 z,.slice pa na ca] 144))
  have HS1:=hid ((HS.out.below hb1).below HB2.out)
  clear hb1
  go_wp2_with fail
  refine (HT.out _ HS1.out).mono ?_
  rintro e w2 ⟨v,rfl,hst,hb2⟩
  obtain ⟨pb,nb,cb,rfl⟩:=hst.slice
  have HTT:=hid hst
  clear hst
  obtain ⟨⟨r0,r1,r2,r3⟩,rf,rz⟩:=res4 (hb2.mono (by simp))
  have HB12:=hid (HB2.out.trans (hb2.mono (by simp)))
  have HB3:=hid (HB1.out.trans (HB12.out.mono HB1.out.size))
  have HBA:=hid ((Below.refl w2.heap.size w2).alloc (Nat.le_refl _) (.cells #[.int .i64 x',.int .i64 y',.int .i64 z',.slice pb nb cb] 144))
  have HB4:=hid (HB3.out.trans (HBA.out.mono HB3.out.size))
  clear hb2
  have HSA:=hid ((HST.out.below HB12.out).below HBA.out)
  have HSB:=hid (HTT.out.below HBA.out)
  go_wp2_with fail
  refine (HC.out _ _ _ HSA.out HSB.out).mono ?_
  rintro e w3 ⟨rfl,hb3⟩
  have HB5:=hid (HB4.out.trans (hb3.mono HB4.out.size))
  clear hb3
  go_wp2_with fail
  go_ret
  exact ⟨rfl,HB5.out⟩
set_option maxHeartbeats 1000000 in
theorem less_10 (x y z : Int) (X : List ByteArray) (s t : ByteArray) (aT aB : Addr) (m : Int) (w : World) (S : Vs w aT aB m)
    (hA : Calls Tryz.prog 125 #[.string s] w fun e w'=>GoodP w w' e x y z X) (hT : ∀ W,Vs W aT aB m -> Calls Tryz.prog 125 #[.string t] W fun e w'=>BadP W w' e) :
    Calls Tryz.prog 80 #[.string s,.string t] w fun e w'=>e = .returned (.bool false) /\ Below w.heap.size w w':=by
  have HA:=hid hA
  have HT:=hid hT
  have HS:=hid S
  clear hA hT S
  go_enter Tryz.func80,Tryz.ntmps80
  go_wp2_with fail
  refine HA.out.mono ?_
  rintro e w1 ⟨v,rfl,hst,hb1⟩
  obtain ⟨pa,na,ca,rfl⟩:=hst.slice
  have HST:=hid hst
  clear hst
  have HB1:=hid hb1
  have HB2:=hid ((Below.refl w1.heap.size w1).alloc (Nat.le_refl _) (.cells #[.int .i64 x,.int .i64 y,.int .i64 z,.slice pa na ca] 144))
  have HS1:=hid ((HS.out.below hb1).below HB2.out)
  clear hb1
  go_wp2_with fail
  refine (HT.out _ HS1.out).mono ?_
  rintro e w2 ⟨a2,rfl,hb2⟩
  obtain ⟨⟨r0,r1,r2,r3⟩,rf,rz⟩:=res4 (hb2.mono (by simp))
  have HB12:=hid (HB2.out.trans (hb2.mono (by simp)))
  have HB3:=hid (HB1.out.trans (HB12.out.mono HB1.out.size))
  have HBA:=hid ((Below.refl w2.heap.size w2).alloc (Nat.le_refl _) (.cells #[.int .i64 0,.int .i64 0,.int .i64 0,.slice none 0 0] 144))
  have HB4:=hid (HB3.out.trans (HBA.out.mono HB3.out.size))
  clear hb2
  go_wp2_with fail
  go_ret
  exact ⟨rfl,HB4.out⟩
set_option maxHeartbeats 1000000 in
theorem less_01 (x' y' z' : Int) (Y : List ByteArray) (s t : ByteArray) (aT aB : Addr) (m : Int) (w : World) (S : Vs w aT aB m)
    (hA : Calls Tryz.prog 125 #[.string s] w fun e w'=>BadP w w' e) (hT : ∀ W,Vs W aT aB m -> Calls Tryz.prog 125 #[.string t] W fun e w'=>GoodP W w' e x' y' z' Y) :
    Calls Tryz.prog 80 #[.string s,.string t] w fun e w'=>e = .returned (.bool false) /\ Below w.heap.size w w':=by
  have HA:=hid hA
  have HT:=hid hT
  have HS:=hid S
  clear hA hT S
  go_enter Tryz.func80,Tryz.ntmps80
  go_wp2_with fail
  refine HA.out.mono ?_
  rintro e w1 ⟨a1,rfl,hb1⟩
  have HB1:=hid hb1
  have HB2:=hid ((Below.refl w1.heap.size w1).alloc (Nat.le_refl _) (.cells #[.int .i64 0,.int .i64 0,.int .i64 0,.slice none 0 0] 144))
  have HS1:=hid ((HS.out.below hb1).below HB2.out)
  clear hb1
  go_wp2_with fail
  refine (HT.out _ HS1.out).mono ?_
  rintro e w2 ⟨v,rfl,hst,hb2⟩
  obtain ⟨pb,nb,cb,rfl⟩:=hst.slice
  have HTT:=hid hst
  clear hst
  obtain ⟨⟨r0,r1,r2,r3⟩,rf,rz⟩:=res4 (hb2.mono (by simp))
  have HB12:=hid (HB2.out.trans (hb2.mono (by simp)))
  have HB3:=hid (HB1.out.trans (HB12.out.mono HB1.out.size))
  have HBA:=hid ((Below.refl w2.heap.size w2).alloc (Nat.le_refl _) (.cells #[.int .i64 x',.int .i64 y',.int .i64 z',.slice pb nb cb] 144))
  have HB4:=hid (HB3.out.trans (HBA.out.mono HB3.out.size))
  clear hb2
  go_wp2_with fail
  go_ret
  exact ⟨rfl,HB4.out⟩
set_option maxHeartbeats 1000000 in
theorem less_00 (s t : ByteArray) (aT aB : Addr) (m : Int) (w : World) (S : Vs w aT aB m)
    (hA : Calls Tryz.prog 125 #[.string s] w fun e w'=>BadP w w' e) (hT : ∀ W,Vs W aT aB m -> Calls Tryz.prog 125 #[.string t] W fun e w'=>BadP W w' e) :
    Calls Tryz.prog 80 #[.string s,.string t] w fun e w'=>e = .returned (.bool false) /\ Below w.heap.size w w':=by
  have HA:=hid hA
  have HT:=hid hT
  have HS:=hid S
  clear hA hT S
  go_enter Tryz.func80,Tryz.ntmps80
  go_wp2_with fail
  refine HA.out.mono ?_
  rintro e w1 ⟨a1,rfl,hb1⟩
  have HB1:=hid hb1
  have HB2:=hid ((Below.refl w1.heap.size w1).alloc (Nat.le_refl _) (.cells #[.int .i64 0,.int .i64 0,.int .i64 0,.slice none 0 0] 144))
  have HS1:=hid ((HS.out.below hb1).below HB2.out)
  clear hb1
  go_wp2_with fail
  refine (HT.out _ HS1.out).mono ?_
  rintro e w2 ⟨a2,rfl,hb2⟩
  obtain ⟨⟨r0,r1,r2,r3⟩,rf,rz⟩:=res4 (hb2.mono (by simp))
  have HB12:=hid (HB2.out.trans (hb2.mono (by simp)))
  have HB3:=hid (HB1.out.trans (HB12.out.mono HB1.out.size))
  have HBA:=hid ((Below.refl w2.heap.size w2).alloc (Nat.le_refl _) (.cells #[.int .i64 0,.int .i64 0,.int .i64 0,.slice none 0 0] 144))
  have HB4:=hid (HB3.out.trans (HBA.out.mono HB3.out.size))
  clear hb2
  go_wp2_with fail
  go_ret
  exact ⟨rfl,HB4.out⟩
theorem pre_bounds {s : ByteArray} {X : List ByteArray} (hs : s.size < 999999) (hX : bl X = preOf s.data.toList) : X.length <= 1000000 /\ ∀ x,x ∈ X -> x.size <= maxLen:=by
  constructor
  · have:=pre_len (l:=s.data.toList); rw [<- hX,bl_len,len_eq] at this; omega
  · intro x hx
    have hm : x.data.toList ∈ preOf s.data.toList:=hX ▸ bl_mem hx
    have:=pre_size hm
    rw [len_eq,len_eq] at this
    unfold maxLen; omega
theorem less_any (s t : ByteArray) (aT aB : Addr) (m : Int) (w : World) (hs : s.size < 999999) (ht : t.size < 999999) (S : Vs w aT aB m) :
    Calls Tryz.prog 80 #[.string s,.string t] w fun e w'=>e = .returned (.bool (lessB s.data.toList t.data.toList)) /\ Below w.heap.size w w':=by
  obtain ⟨X,hX⟩ : ∃ X,bl X = preOf s.data.toList:=⟨_,bl_strs _⟩
  obtain ⟨Y,hY⟩ : ∃ X,bl X = preOf t.data.toList:=⟨_,bl_strs _⟩
  obtain ⟨lX,pX⟩:=pre_bounds hs hX
  obtain ⟨lY,pY⟩:=pre_bounds ht hY
  unfold lessB
  by_cases h1 : verErr s.data.toList = 0
  all_goals by_cases h2 : verErr t.data.toList = 0
  · rw [decide_eq_true h1,decide_eq_true h2]
    refine (less_11 (ordV s.data.toList t.data.toList) _ _ _ _ _ _ X Y s t aT aB m w S (vsplit_is s aT aB m w (by omega) S h1 X hX) (fun W SW=>vsplit_is t aT aB m W (by omega) SW h2 Y hY) ?_).mono fun e w' h=>h
    intro W va vb ha hb
    unfold ordV
    rw [<- hX,<- hY]
    exact compare_any _ _ _ _ _ _ va vb X Y W lX lY pX pY ha hb
  · rw [decide_eq_true h1,decide_eq_false h2]
    exact less_10 _ _ _ X s t aT aB m w S (vsplit_is s aT aB m w (by omega) S h1 X hX) (fun W SW=>vsplit_not t aT aB m W (by omega) SW h2)
  · rw [decide_eq_false h1]
    exact less_01 _ _ _ Y s t aT aB m w S (vsplit_not s aT aB m w (by omega) S h1) (fun W SW=>vsplit_is t aT aB m W (by omega) SW h2 Y hY)
  · rw [decide_eq_false h1]
    exact less_00 s t aT aB m w S (vsplit_not s aT aB m w (by omega) S h1) (fun W SW=>vsplit_not t aT aB m W (by omega) SW h2)
theorem str_refl (a : ByteArray) : (a.toList == a.toList) = true:=by simp
def aheadB (p v q u : List UInt8) : Bool:=if p = q then lessB v u else decide (Lib.compareBytes p q < 0)
set_option maxHeartbeats 1000000 in
theorem ahead_any (p v q u : ByteArray) (A : Nat -> Addr) (m : Int) (w : World) (hv : v.size < 999999) (hu : u.size < 999999) (S : Te w A m) :
    Calls Tryz.prog 160 #[.agg #[.string p,.string v],.agg #[.string q,.string u]] w fun e w'=>e = .returned (.bool (aheadB p.data.toList v.data.toList q.data.toList u.data.toList)) /\ Below w.heap.size w w':=by
  have HO:=hid (show aheadB p.data.toList v.data.toList q.data.toList u.data.toList = if p.data.toList = q.data.toList then lessB v.data.toList u.data.toList else decide (Lib.compareBytes p.data.toList q.data.toList < 0) from rfl)
  have HB0:=hid (((Below.refl w.heap.size w).alloc (Nat.le_refl _) (.cells #[.string p,.string v] 25)).alloc (by simp) (.cells #[.string q,.string u] 25))
  by_cases h : p = q
  · subst h
    rw [if_pos rfl] at HO
    have he:=str_refl p
    have HL:=hid (fun W (SW : Te W A m)=>less_any v u (A 0) (A 1) m W hv hu SW.vs)
    have HS:=hid S
    clear S
    go_enter Tryz.func160,Tryz.ntmps160
    go_wp2_with fail
    refine (HL.out _ (HS.out.below HB0.out)).mono ?_
    rintro e w1 ⟨rfl,hb⟩
    have HB:=hid (HB0.out.trans (hb.mono HB0.out.size))
    clear hb
    go_wp2_with fail
    go_ret
    exact ⟨ret_bool HO.out.symm,HB.out⟩
  · rw [if_neg (fun e=>h (str_ext e))] at HO
    have he:=str_ne h
    have HC:=hid (show Op.bytesLess p.toList q.toList = decide (Lib.compareBytes p.data.toList q.data.toList < 0) by rw [cb_less,ByteArray.toList_eq,ByteArray.toList_eq])
    clear S h
    go_enter Tryz.func160,Tryz.ntmps160
    go_wp2_with fail
    go_ret
    exact ⟨ret_bool (by rw [HO.out,<- HC.out]),HB0.out⟩
theorem modSame (p v q u : ByteArray) (w : World) : (Op.equalIn 10000 25 (.agg #[.string p,.string v]) (.agg #[.string q,.string u])).run Tryz.prog w = .ok (decide (p = q /\ v = u)) w:=by
  have u3:=Tryz.underlying9
  have a3:=Tryz.isAgg9
  have z3:=Tryz.sizeOf9
  have hS : Tryz.prog.underlying 25 = some (.struct (Tryz.prog.fieldsOf 25)):=by kernel_rfl
  have hp : Tryz.prog.stoodInHeld 25 = false:=by kernel_rfl
  rw [show (10000 : Nat) = 9999 + 1 from rfl,run_equalIn_agg w 9999 25 _ _ hS hp]
  simp only [Program.fieldsOf,Tryz.underlying25]
  by_cases h1 : p = q
  · subst h1
    by_cases h2 : v = u
    · subst h2
      have e1:=str_refl p
      have e2:=str_refl v
      go_simp
    · have e1:=str_refl p
      have e2:=str_ne h2
      go_simp
  · have e1:=str_ne h1
    go_simp
theorem modEql (p v q u : ByteArray) (w : World) : (binOp .eql 25 (.agg #[.string p,.string v]) (.agg #[.string q,.string u])).run Tryz.prog w = .ok (.bool (decide (p = q /\ v = u))) w:=by
  rw [run_eql_struct,modSame]; rfl
theorem modNeq (p v q u : ByteArray) (w : World) : (binOp .neq 25 (.agg #[.string p,.string v]) (.agg #[.string q,.string u])).run Tryz.prog w = .ok (.bool (!decide (p = q /\ v = u))) w:=by
  rw [run_neq_struct,modSame]; rfl
theorem modGuard : Tryz.prog.eqGuardType Tryz.prog.depth 25 = false:=by kernel_rfl
def fitsB (major suffix : Int) : Bool:=if suffix == 0 then (major == 0 || major == 1) else major == suffix
theorem fits_any (a b : Int) (w : World) : Calls Tryz.prog 161 #[.int .i64 a,.int .i64 b] w fun e w'=>e = .returned (.bool (fitsB a b)) /\ w' = w:=by
  have HF:=hid (show fitsB a b = if b == 0 then (a == 0 || a == 1) else a == b from rfl)
  cases h : (b == 0)
  · rw [h] at HF
    go_enter Tryz.func161,Tryz.ntmps161
    go_wp2_with fail
    go_ret
    exact ⟨ret_bool (by rw [HF.out]; rfl),rfl⟩
  · rw [h] at HF
    cases h2 : (a == 0)
    · rw [h2] at HF
      go_enter Tryz.func161,Tryz.ntmps161
      go_wp2_with fail
      go_ret
      exact ⟨ret_bool (by rw [HF.out]; rfl),rfl⟩
    · rw [h2] at HF
      go_enter Tryz.func161,Tryz.ntmps161
      go_wp2_with fail
      go_ret
      exact ⟨ret_bool (by rw [HF.out]; rfl),rfl⟩
def modErr (p v : List UInt8) : Nat:=if pathErr p = 0 then (if verErr v = 0 then (if fitsB (nAt v 0) (pathN p) then 0 else 4) else verErr v) else pathErr p
theorem verErr_err (l : List UInt8) : verErr l = 0 \/ verErr l = 1 \/ verErr l = 2:=by
  unfold verErr
  split
  · simp
  · split
    · exact worse_err (numsErr_err _) (pre_err _)
    · exact numsErr_err _
theorem res2 {w w3 : World} {a b : Value} {T : TypeId} (hb : Below (w.heap.size + 1) (w.alloc (.cells #[a,b] T)) w3) :
    (w3.cell? ⟨w.heap.size,0,none⟩ = some a /\ w3.cell? ⟨w.heap.size,1,none⟩ = some b) /\ w.heap.size < w3.heap.size:=by
  refine ⟨⟨?_,?_⟩,?_⟩
  · rw [hb.cell (by simp)]; simp
  · rw [hb.cell (by simp)]; simp
  · have:=hb.size; simp at this; omega
set_option maxHeartbeats 1000000 in
theorem mcheck_path (p v : ByteArray) (A : Nat -> Addr) (m : Int) (w : World) (hp : p.size < 4294967281) (S : Te w A m) (h0 : pathErr p.data.toList ≠ 0) :
    Calls Tryz.prog 124 #[.agg #[.string p,.string v]] w fun e w'=>e = .returned (errA A (pathErr p.data.toList)) /\ Below w.heap.size w w':=by
  have HB0:=hid ((Below.refl w.heap.size w).alloc (Nat.le_refl _) (.cells #[.string p,.string v] 25))
  have HP:=hid (readPath_any p A m _ hp (S.below HB0.out))
  obtain ⟨a9,ha9⟩:=errA_ne A h0
  have HE:=hid ha9
  clear S h0 ha9
  go_enter Tryz.func124,Tryz.ntmps124
  go_wp2_with fail
  refine HP.out.mono ?_
  rintro e w1 ⟨⟨H,n,v,rfl,hv,_,_⟩,hb⟩
  rw [HE.out] at hv
  subst hv
  have HB:=hid (HB0.out.trans (hb.mono HB0.out.size))
  clear hb
  go_wp2_with fail
  go_ret
  exact ⟨by rw [HE.out]; rfl,HB.out⟩
set_option maxHeartbeats 1000000 in
theorem mcheck_ver (p v : ByteArray) (A : Nat -> Addr) (m : Int) (w : World) (hp : p.size < 4294967281) (hvs : v.size < 4294967281) (S : Te w A m) (h0 : pathErr p.data.toList = 0) (h1 : verErr v.data.toList ≠ 0) :
    Calls Tryz.prog 124 #[.agg #[.string p,.string v]] w fun e w'=>e = .returned (errA A (verErr v.data.toList)) /\ Below w.heap.size w w':=by
  obtain ⟨a9,ha9⟩:=errV_ne (A 0) (A 1) h1
  have HE:=hid ha9
  have HV:=hid h1
  have HX:=hid (errA_V A (verErr v.data.toList) (verErr_err _))
  clear ha9 h1
  have HB0:=hid ((Below.refl w.heap.size w).alloc (Nat.le_refl _) (.cells #[.string p,.string v] 25))
  have HS0:=hid (S.below HB0.out)
  have HP:=hid (readPath_any p A m _ hp HS0.out)
  have H0:=hid h0
  clear S h0
  go_enter Tryz.func124,Tryz.ntmps124
  go_wp2_with fail
  refine HP.out.mono ?_
  rintro e w1 ⟨⟨H,n,ev,rfl,hv,hgood,_⟩,hb⟩
  obtain ⟨_,rfl⟩:=hgood H0.out
  rw [H0.out,errA0] at hv
  subst hv
  obtain ⟨⟨r0,r1⟩,rz⟩:=res2 (hb.mono (by simp))
  have HS1:=hid (HS0.out.below hb)
  have HB:=hid (HB0.out.trans (hb.mono HB0.out.size))
  clear hb hgood
  go_wp2_with fail
  refine (vsplit_bad v (A 0) (A 1) m w1 hvs HS1.out.vs HV.out).mono ?_
  rintro e w2 ⟨rfl,hb2⟩
  rw [HE.out]
  have HB2:=hid (HB.out.trans (hb2.mono HB.out.size))
  clear hb2
  go_wp2_with fail
  go_ret
  exact ⟨by rw [<- HX.out,HE.out]; rfl,HB2.out.alloc HB2.out.size _⟩
set_option maxHeartbeats 1000000 in
theorem mcheck_major (p v : ByteArray) (A : Nat -> Addr) (m : Int) (w : World) (hp : p.size < 4294967281) (hvs : v.size < 4294967281) (S : Te w A m) (h0 : pathErr p.data.toList = 0) (h1 : verErr v.data.toList = 0) (h2 : fitsB (nAt v.data.toList 0) (pathN p.data.toList) = false) :
    Calls Tryz.prog 124 #[.agg #[.string p,.string v]] w fun e w'=>e = .returned (.iface 319 (.pointer (some (A 3)))) /\ Below w.heap.size w w':=by
  have HV:=hid h1
  have HF:=hid h2
  clear h1 h2
  have HB0:=hid ((Below.refl w.heap.size w).alloc (Nat.le_refl _) (.cells #[.string p,.string v] 25))
  have HS0:=hid (S.below HB0.out)
  have HP:=hid (readPath_any p A m _ hp HS0.out)
  have H0:=hid h0
  clear S h0
  go_enter Tryz.func124,Tryz.ntmps124
  go_wp2_with fail
  refine HP.out.mono ?_
  rintro e w1 ⟨⟨H,n,ev,rfl,hv,hgood,_⟩,hb⟩
  obtain ⟨_,rfl⟩:=hgood H0.out
  rw [H0.out,errA0] at hv
  subst hv
  obtain ⟨⟨r0,r1⟩,rz⟩:=res2 (hb.mono (by simp))
  have HS1:=hid (HS0.out.below hb)
  have HB:=hid (HB0.out.trans (hb.mono HB0.out.size))
  clear hb hgood
  go_wp2_with fail
  refine (vsplit_good v (A 0) (A 1) m w1 hvs HS1.out.vs HV.out).mono ?_
  rintro e w2 ⟨u,X,rfl,_,hst,hb2⟩
  obtain ⟨pa,na,ca,rfl⟩:=hst.slice
  have HB2:=hid (HB.out.trans (hb2.mono HB.out.size))
  have HS2:=hid (HS1.out.below hb2)
  have HBA:=hid ((Below.refl w2.heap.size w2).alloc (Nat.le_refl _) (.cells #[.int .i64 (nAt v.data.toList 0),.int .i64 (nAt v.data.toList 1),.int .i64 (nAt v.data.toList 2),.slice pa na ca] 144))
  have HS3:=hid (HS2.out.below HBA.out)
  have HB3:=hid (HB2.out.trans (HBA.out.mono HB2.out.size))
  clear hb2 hst
  go_wp2_with fail
  refine (fits_any _ _ _).mono ?_
  rintro e w' ⟨rfl,rfl⟩
  rw [HF.out]
  have g3:=HS3.out.sen.g3
  go_wp2_with fail
  go_ret
  exact ⟨rfl,HB3.out⟩
set_option maxHeartbeats 1000000 in
theorem mcheck_ok (p v : ByteArray) (A : Nat -> Addr) (m : Int) (w : World) (hp : p.size < 4294967281) (hvs : v.size < 4294967281) (S : Te w A m) (h0 : pathErr p.data.toList = 0) (h1 : verErr v.data.toList = 0) (h2 : fitsB (nAt v.data.toList 0) (pathN p.data.toList) = true) :
    Calls Tryz.prog 124 #[.agg #[.string p,.string v]] w fun e w'=>e = .returned (.nilIface) /\ Below w.heap.size w w':=by
  have HV:=hid h1
  have HF:=hid h2
  clear h1 h2
  have HB0:=hid ((Below.refl w.heap.size w).alloc (Nat.le_refl _) (.cells #[.string p,.string v] 25))
  have HS0:=hid (S.below HB0.out)
  have HP:=hid (readPath_any p A m _ hp HS0.out)
  have H0:=hid h0
  clear S h0
  go_enter Tryz.func124,Tryz.ntmps124
  go_wp2_with fail
  refine HP.out.mono ?_
  rintro e w1 ⟨⟨H,n,ev,rfl,hv,hgood,_⟩,hb⟩
  obtain ⟨_,rfl⟩:=hgood H0.out
  rw [H0.out,errA0] at hv
  subst hv
  obtain ⟨⟨r0,r1⟩,rz⟩:=res2 (hb.mono (by simp))
  have HS1:=hid (HS0.out.below hb)
  have HB:=hid (HB0.out.trans (hb.mono HB0.out.size))
  clear hb hgood
  go_wp2_with fail
  refine (vsplit_good v (A 0) (A 1) m w1 hvs HS1.out.vs HV.out).mono ?_
  rintro e w2 ⟨u,X,rfl,_,hst,hb2⟩
  obtain ⟨pa,na,ca,rfl⟩:=hst.slice
  have HB2:=hid (HB.out.trans (hb2.mono HB.out.size))
  have HS2:=hid (HS1.out.below hb2)
  have HBA:=hid ((Below.refl w2.heap.size w2).alloc (Nat.le_refl _) (.cells #[.int .i64 (nAt v.data.toList 0),.int .i64 (nAt v.data.toList 1),.int .i64 (nAt v.data.toList 2),.slice pa na ca] 144))
  have HS3:=hid (HS2.out.below HBA.out)
  have HB3:=hid (HB2.out.trans (HBA.out.mono HB2.out.size))
  clear hb2 hst
  go_wp2_with fail
  refine (fits_any _ _ _).mono ?_
  rintro e w' ⟨rfl,rfl⟩
  rw [HF.out]
  go_wp2_with fail
  go_ret
  exact ⟨rfl,HB3.out⟩
theorem mcheck_any (p v : ByteArray) (A : Nat -> Addr) (m : Int) (w : World) (hp : p.size < 4294967281) (hv : v.size < 4294967281) (S : Te w A m) :
    Calls Tryz.prog 124 #[.agg #[.string p,.string v]] w fun e w'=>e = .returned (errA A (modErr p.data.toList v.data.toList)) /\ Below w.heap.size w w':=by
  unfold modErr
  by_cases h0 : pathErr p.data.toList = 0
  · rw [if_pos h0]
    by_cases h1 : verErr v.data.toList = 0
    · rw [if_pos h1]
      cases h2 : fitsB (nAt v.data.toList 0) (pathN p.data.toList)
      · exact mcheck_major p v A m w hp hv S h0 h1 h2
      · exact mcheck_ok p v A m w hp hv S h0 h1 h2
    · rw [if_neg h1]; exact mcheck_ver p v A m w hp hv S h0 h1
  · rw [if_neg h0]; exact mcheck_path p v A m w hp S h0
def mErr (m : Bm) : Nat:=modErr m.1.data.toList m.2.data.toList
def mAhead (a b : Bm) : Bool:=aheadB a.1.data.toList a.2.data.toList b.1.data.toList b.2.data.toList
def noLess (a b : ByteArray) : Bool:=!decide (Lib.compareBytes a.data.toList b.data.toList < 0)
def reqW (own : ByteArray) (prev : Option Bm) (m : Bm) : Nat:=
  if mErr m = 0 then (if m.1 = own then 3 else match prev with
    | none=>0
    | some p=>if noLess p.1 m.1 then 8 else 0) else mErr m
def prevOf (l : List Bm) (i : Nat) : Option Bm:=if i = 0 then none else l[i - 1]?
def reqE (own : ByteArray) (l : List Bm) (i : Nat) : Nat:=match l[i]? with
  | none=>0
  | some m=>reqW own (prevOf l i) m
def fstE (E : Nat -> Nat) : Nat -> Option Nat
  | 0=>none
  | n + 1=>match fstE E n with
    | some i=>some i
    | none=>if E n = 0 then none else some n
theorem fstE_none {E : Nat -> Nat} : ∀ {n : Nat},(∀ j,j < n -> E j = 0) -> fstE E n = none
  | 0,_=>rfl
  | n + 1,h=>by
    unfold fstE
    rw [fstE_none (n:=n) (fun j hj=>h j (by omega)),if_pos (h n (by omega))]
theorem fstE_some {E : Nat -> Nat} {i : Nat} (h0 : ∀ j,j < i -> E j = 0) (hi : E i ≠ 0) : ∀ {n : Nat},i < n -> fstE E n = some i
  | 0,h=>by omega
  | n + 1,h=>by
    unfold fstE
    rcases Nat.lt_or_ge i n with hh | hh
    · rw [fstE_some h0 hi hh]
    · have : i = n:=by omega
      subst this
      rw [fstE_none h0]
      simp only
      rw [if_neg hi]
theorem fstE_of_none {E : Nat -> Nat} : ∀ {n : Nat},fstE E n = none -> ∀ j,j < n -> E j = 0
  | 0,_,j,hj=>by omega
  | n + 1,h,j,hj=>by
    unfold fstE at h
    cases h1 : fstE E n with
    | some i=>rw [h1] at h; cases h
    | none=>
      rw [h1] at h
      simp only at h
      by_cases h2 : E n = 0
      · rcases Nat.lt_or_ge j n with hh | hh
        · exact fstE_of_none h1 j hh
        · have : j = n:=by omega
          rw [this]; exact h2
      · rw [if_neg h2] at h; cases h
theorem fstE_of_some {E : Nat -> Nat} {i : Nat} : ∀ {n : Nat},fstE E n = some i -> i < n /\ E i ≠ 0 /\ ∀ j,j < i -> E j = 0
  | 0,h=>by cases h
  | n + 1,h=>by
    unfold fstE at h
    cases h1 : fstE E n with
    | some k=>
      rw [h1] at h
      obtain ⟨a,b,c⟩:=fstE_of_some h1
      simp only [Option.some.injEq] at h
      subst h
      exact ⟨by omega,b,c⟩
    | none=>
      rw [h1] at h
      simp only at h
      by_cases h2 : E n = 0
      · rw [if_pos h2] at h; cases h
      · rw [if_neg h2] at h
        simp only [Option.some.injEq] at h
        subst h
        exact ⟨by omega,h2,fstE_of_none h1⟩
def MsAt (w : World) (v : Value) (L : List Bm) : Prop:=
  ∃ (a : Option Addr) (c : Nat),v = .slice a L.length c /\ L.length <= c /\ (L ≠ [] -> ∃ b o,a = some ⟨b,o,none⟩ /\ ∀ j (h : j < L.length),w.cell? ⟨b,o + j * 2,none⟩ = some (.string L[j].1) /\ w.cell? ⟨b,o + j * 2 + 1,none⟩ = some (.string L[j].2))
theorem MsAt.below {w w' : World} {v : Value} {L : List Bm} (h : MsAt w v L) (hb : Below w.heap.size w w') : MsAt w' v L:=by
  obtain ⟨a,c,e,hc,h⟩:=h
  refine ⟨a,c,e,hc,fun hL=>?_⟩
  obtain ⟨b,o,e2,h2⟩:=h hL
  exact ⟨b,o,e2,fun j hj=>⟨cell_below hb (h2 j hj).1,cell_below hb (h2 j hj).2⟩⟩
theorem below_drawn_of {B : Nat} {a w : World} (h : Below B a w) (q : Nat) : Below B a (w.drewN q):=⟨h.os,h.tape,h.output,h.size,h.block⟩
def ErrAt (W : World) (A : Nat -> Addr) (v : Value) (c : Nat) (o : Option Nat) : Prop:=match o with
  | none=>v = errA A c
  | some i=>c ≠ 0 /\ ∃ b,v = .iface 125 (.pointer (some ⟨b,0,none⟩)) /\ W.cell? ⟨b,0,none⟩ = some (.int .i64 i) /\ W.cell? ⟨b,1,none⟩ = some (errA A c)
theorem ErrAt.below {W W' : World} {A : Nat -> Addr} {v : Value} {c : Nat} {o : Option Nat} (h : ErrAt W A v c o) (hb : Below W.heap.size W W') : ErrAt W' A v c o:=by
  cases o with
  | none=>exact h
  | some i=>
    obtain ⟨h0,b,h1,h2,h3⟩:=h
    exact ⟨h0,b,h1,cell_below hb h2,cell_below hb h3⟩
def codeE (E : Nat -> Nat) (n : Nat) : Nat:=match fstE E n with
  | none=>0
  | some i=>E i
theorem codeE_none {E : Nat -> Nat} {n : Nat} (h : fstE E n = none) : codeE E n = 0:=by unfold codeE; rw [h]
theorem codeE_some {E : Nat -> Nat} {n i : Nat} (h : fstE E n = some i) : codeE E n = E i:=by unfold codeE; rw [h]
theorem errA_if (A : Nat -> Addr) {c : Nat} (h : c ≠ 0) : errA A c = .iface 319 (.pointer (some (A (c - 1)))):=by unfold errA; rw [if_neg h]
theorem fault_at {w1 : World} {A : Nat -> Addr} {i c : Nat} (hc : c ≠ 0) (T : TypeId) : ErrAt (w1.alloc (.cells #[.int .i64 i,.iface 319 (.pointer (some (A (c - 1))))] T)) A (.iface 125 (.pointer (some ⟨w1.heap.size,0,none⟩))) c (some i):=
  ⟨hc,w1.heap.size,rfl,by simp,by rw [errA_if A hc]; simp⟩
set_option maxHeartbeats 1000000 in
theorem first_mods (K : Nat) (cb : Array Value) (E : Nat -> Nat) (L : List Bm) (b o c : Nat) (A : Nat -> Addr) (w : World) (eg : ∀ args w,(callFunc K args).run Tryz.prog w = .ok (.enter K args) w) (hL : L.length <= 1000000)
    (hc : ∀ j (h : j < L.length),w.cell? ⟨b,o + j * 2,none⟩ = some (.string L[j].1) /\ w.cell? ⟨b,o + j * 2 + 1,none⟩ = some (.string L[j].2))
    (hK : ∀ i (h : i < L.length) W,Below w.heap.size w W -> Calls Tryz.prog K (#[.int .i64 (i : Int),.agg #[.string L[i].1,.string L[i].2]] ++ cb) W fun e w'=>e = .returned (errA A (E i)) /\ Below W.heap.size W w') :
    Calls Tryz.prog 99 #[.slice (some ⟨b,o,none⟩) L.length c,.func (.func K) #[] cb] w fun e w'=>∃ v,e = .returned v /\ ErrAt w' A v (codeE E L.length) (fstE E L.length) /\ Below w.heap.size w w':=by
  have HK:=hid hK
  have HC:=hid hc
  clear hK hc
  go_enter Tryz.func99,Tryz.ntmps99
  go_wp2_with fail
  go_loopw [10] (fun i wr=>∃ k : Nat,k <= L.length /\ i = .int .i64 k /\ Hid (∀ j,j < k -> E j = 0) /\ Hid (Below w.heap.size w wr)) (fun i _=>L.length - (intOf i).toNat)
  case atStart=>exact ⟨0,Nat.zero_le _,rfl,hid (fun j hj=>absurd hj (by omega)),hid (Below.refl _ _)⟩
  case round=>
    obtain ⟨k,hk,rfl,HE,HB⟩:=hrel
    by_cases hlt : k < L.length
    · have hx:=cell_below HB.out (HC.out k hlt).1
      have hy:=cell_below HB.out (HC.out k hlt).2
      have HBa:=hid (HB.out.alloc HB.out.size (.cells #[.string L[k].1,.string L[k].2] 25))
      have HP:=hid (HK.out k hlt _ HBa.out)
      by_cases h0 : E k = 0
      · rw [h0,errA0] at HP
        go_wp2_with fail
        refine HP.out.mono ?_
        rintro e w1 ⟨rfl,hb1⟩
        have HB1:=hid (HBa.out.trans (hb1.mono HBa.out.size))
        clear hb1
        go_wp2_with fail
        go_roundw
        case rel=>exact ⟨k + 1,by omega,by go_num,hid (fun j hj=>by
          rcases Nat.lt_or_ge j k with h | h
          · exact HE.out j h
          · have : j = k:=by omega
            rw [this]; exact h0),HB1⟩
        case measure=>simp [intOf]; omega
      · rw [errA_if A h0] at HP
        have HF:=hid (fstE_some HE.out h0 hlt)
        have H0:=hid h0
        clear h0
        go_wp2_with fail
        refine HP.out.mono ?_
        rintro e w1 ⟨rfl,hb1⟩
        have HB1:=hid (HBa.out.trans (hb1.mono HBa.out.size))
        clear hb1
        go_wp2_with fail
        go_ret
        refine ⟨_,rfl,?_,HB1.out.alloc HB1.out.size _⟩
        rw [codeE_some HF.out,HF.out]
        exact fault_at H0.out _
    · have HF:=hid (fstE_none (E:=E) (n:=L.length) (fun j hj=>HE.out j (by omega)))
      go_wp2_with fail
      go_ret
      refine ⟨_,rfl,?_,HB.out⟩
      rw [codeE_none HF.out,HF.out]
      rfl
theorem first_none (K : Nat) (cb : Array Value) (E : Nat -> Nat) (a : Option Addr) (c : Nat) (A : Nat -> Addr) (w : World) :
    Calls Tryz.prog 99 #[.slice a 0 c,.func (.func K) #[] cb] w fun e w'=>∃ v,e = .returned v /\ ErrAt w' A v (codeE E 0) (fstE E 0) /\ Below w.heap.size w w':=by
  go_enter Tryz.func99,Tryz.ntmps99
  go_wp2_with fail
  go_loopw [10] (fun i wr=>i = .int .i64 0 /\ wr = w) (fun i _=>0)
  case atStart=>exact ⟨rfl,rfl⟩
  case round=>
    obtain ⟨rfl,rfl⟩:=hrel
    go_wp2_with fail
    go_ret
    exact ⟨_,rfl,rfl,Below.refl _ _⟩
theorem first_any (K : Nat) (cb : Array Value) (E : Nat -> Nat) (L : List Bm) (v : Value) (A : Nat -> Addr) (w : World) (eg : ∀ args w,(callFunc K args).run Tryz.prog w = .ok (.enter K args) w) (hL : L.length <= 1000000) (hv : MsAt w v L)
    (hK : ∀ i (h : i < L.length) W,Below w.heap.size w W -> Calls Tryz.prog K (#[.int .i64 (i : Int),.agg #[.string L[i].1,.string L[i].2]] ++ cb) W fun e w'=>e = .returned (errA A (E i)) /\ Below W.heap.size W w') :
    Calls Tryz.prog 99 #[v,.func (.func K) #[] cb] w fun e w'=>∃ u,e = .returned u /\ ErrAt w' A u (codeE E L.length) (fstE E L.length) /\ Below w.heap.size w w':=by
  obtain ⟨a,c,rfl,_,h⟩:=hv
  cases L with
  | nil=>exact first_none K cb E a c A w
  | cons x r=>
    obtain ⟨b,o,rfl,h2⟩:=h (by simp)
    exact first_mods K cb E (x :: r) b o c A w eg hL h2 hK
end Ve
end Go.Proofs.YtlcffhadobhfkaaGreatDoor
