/-
  BwA DnP DnQ DnA
-/
import Derived.Test.YtlcffhadobhfkaaGreatDoorMq6
import Derived.Test.YtlcffhadobhfkaaGreatDoorMq39
import Derived.Test.YtlcffhadobhfkaaGreatDoorMq2
import Derived.Test.YtlcffhadobhfkaaGreatDoorMq5
import Derived.Test.YtlcffhadobhfkaaGreatDoorMq3
import Derived.Test.YtlcffhadobhfkaaGreatDoorMq16
import Derived.Test.YtlcffhadobhfkaaGreatDoorMq9
import Derived.Test.YtlcffhadobhfkaaGreatDoorMq18
import Derived.Test.YtlcffhadobhfkaaGreatDoorMq20
import Derived.Test.YtlcffhadobhfkaaGreatDoorMq23
import Derived.Test.YtlcffhadobhfkaaGreatDoorMq36
import Derived.Test.YtlcffhadobhfkaaGreatDoorMq34
import Derived.Test.YtlcffhadobhfkaaGreatDoorMq22
import Derived.Test.YtlcffhadobhfkaaGreatDoorMq43
import Derived.Test.YtlcffhadobhfkaaGreatDoorMq45
import Derived.Test.YtlcffhadobhfkaaGreatDoorMq17
import Derived.Test.YtlcffhadobhfkaaGreatDoorMq11
import Derived.Test.YtlcffhadobhfkaaGreatDoorMq19
namespace Go.Proofs.YtlcffhadobhfkaaGreatDoor
open Go.RowKit Go.Maps
namespace Ve
theorem bwc_put (O : List Bool) (a : Nat) (b : Bool) : (bwc O).setIfInBounds a (.bool b) = bwc (O.set a b):=by
  unfold bwc
  rw [List.setIfInBounds_toArray,List.map_set]
def noneL : List UInt8:=[110,111,110,101]
def capB (caps : List Bm) (m : Bm) : Bool:=match atP caps m.1 with
  | none=>false
  | some c=>decide (vb c = noneL) || lessB (vb c) (vb m)
def capW (prev : Option Bm) (m : Bm) : Nat :=
  if pathErr m.1.data.toList ≠ 0 then pathErr m.1.data.toList
  else if vb m ≠ noneL /\ verErr (vb m) ≠ 0 then verErr (vb m)
  else match prev with
    | none=>0
    | some p=>if noLess p.1 m.1 then 8 else 0
def capE (caps : List Bm) (i : Nat) : Nat:=match caps[i]? with
  | none=>0
  | some m=>capW (prevOf caps i) m
def chkP (caps : List Bm) : Nat × Option Nat:=(codeE (capE caps) caps.length,fstE (capE caps) caps.length)
theorem capW_zero {prev : Option Bm} {m : Bm} (h : capW prev m = 0) : pathErr m.1.data.toList = 0 ∧ (vb m = noneL ∨ verErr (vb m) = 0) ∧ ∀ p, prev = some p → noLess p.1 m.1 = false := by
  unfold capW at h
  by_cases h0 : pathErr m.1.data.toList = 0
  · rw [if_neg (by simp [h0])] at h
    by_cases h1 : vb m ≠ noneL /\ verErr (vb m) ≠ 0
    · rw [if_pos h1] at h; exact absurd h h1.2
    · rw [if_neg h1] at h
      refine ⟨h0,?_,fun p hp=>?_⟩
      · by_cases h2 : vb m = noneL
        · exact Or.inl h2
        · exact Or.inr (Classical.byContradiction fun h3=>h1 ⟨h2,h3⟩)
      · subst hp
        cases hc : noLess p.1 m.1 with
        | false=>rfl
        | true=>simp [hc] at h
  · rw [if_pos h0] at h; exact absurd h h0
theorem caps_each {caps : List Bm} (h : (chkP caps).1 = 0) {i : Nat} (hi : i < caps.length) : capW (prevOf caps i) caps[i] = 0:=by
  have:=codeE_all h i hi
  unfold capE at this
  rw [List.getElem?_eq_getElem hi] at this
  exact this
theorem capE_at {caps : List Bm} {i : Nat} (hi : i < caps.length) : capE caps i = capW (prevOf caps i) caps[i]:=by
  unfold capE
  rw [List.getElem?_eq_getElem hi]
theorem caps_good {caps : List Bm} (h0 : ∀ j,j < caps.length -> capE caps j = 0) : chkP caps = (0,none):=by
  have hs : fstE (capE caps) caps.length = none:=fstE_none h0
  unfold chkP
  rw [codeE_none hs,hs]
theorem capW_path {prev : Option Bm} {m : Bm} (h : pathErr m.1.data.toList ≠ 0) : capW prev m = pathErr m.1.data.toList:=by unfold capW; rw [if_pos h]
theorem capW_ver {prev : Option Bm} {m : Bm} (h : pathErr m.1.data.toList = 0) (h1 : vb m ≠ noneL) (h2 : verErr (vb m) ≠ 0) : capW prev m = verErr (vb m):=by unfold capW; rw [if_neg (by simp [h]),if_pos ⟨h1,h2⟩]
theorem capW_first {m : Bm} (h : pathErr m.1.data.toList = 0) (h1 : vb m = noneL \/ verErr (vb m) = 0) : capW none m = 0:=by
  unfold capW
  rw [if_neg (by simp [h]),if_neg (by rintro ⟨a,b⟩; rcases h1 with h1 | h1 <;> contradiction)]
theorem capW_order {p m : Bm} (h : pathErr m.1.data.toList = 0) (h1 : vb m = noneL \/ verErr (vb m) = 0) (h2 : noLess p.1 m.1 = true) : capW (some p) m = 8:=by
  unfold capW
  rw [if_neg (by simp [h]),if_neg (by rintro ⟨a,b⟩; rcases h1 with h1 | h1 <;> contradiction)]
  simp [h2]
theorem capW_right {p m : Bm} (h : pathErr m.1.data.toList = 0) (h1 : vb m = noneL \/ verErr (vb m) = 0) (h2 : noLess p.1 m.1 = false) : capW (some p) m = 0:=by
  unfold capW
  rw [if_neg (by simp [h]),if_neg (by rintro ⟨a,b⟩; rcases h1 with h1 | h1 <;> contradiction)]
  simp [h2]
theorem capB_none {caps : List Bm} {m : Bm} (h : ∀ c,c ∈ caps -> c.1 ≠ m.1) : capB caps m = false:=by
  unfold capB
  have : atP caps m.1 = none:=List.find?_eq_none.2 fun c hc=>by simpa using h c hc
  rw [this]
theorem capB_at {caps : List Bm} {m c : Bm} (h : atP caps m.1 = some c) : capB caps m = (decide (vb c = noneL) || lessB (vb c) (vb m)):=by
  unfold capB
  rw [h]
theorem atP_first {caps : List Bm} {p : ByteArray} {k : Nat} (hk : k < caps.length) (h : caps[k].1 = p) (h0 : ∀ j (h : j < caps.length),j < k -> caps[j].1 ≠ p) : atP caps p = some caps[k]:=by
  unfold atP
  rw [List.find?_eq_some_iff_getElem]
  exact ⟨by simpa using h,k,hk,rfl,fun j hj=>by simpa using h0 j (by omega) hj⟩
theorem caps_next {caps : List Bm} (h : (chkP caps).1 = 0) {i : Nat} (hi : i + 1 < caps.length) : lt (caps[i]'(by omega)).1 caps[i + 1].1 = true:=by
  have h1:=(capW_zero (caps_each h hi)).2.2 (caps[i]'(by omega)) (by
    unfold prevOf
    rw [if_neg (by omega)]
    exact List.getElem?_eq_getElem (by omega))
  unfold noLess at h1
  unfold lt
  simpa using h1
theorem caps_rise {caps : List Bm} (h : (chkP caps).1 = 0) : rising caps:=by
  refine List.pairwise_iff_getElem.2 fun i j hi hj hij=>?_
  obtain ⟨d,rfl⟩ : ∃ d,j = i + d + 1:=⟨j - i - 1,by omega⟩
  clear hij
  induction d with
  | zero=>exact caps_next h hj
  | succ d ih=>exact lt_trans (ih (by omega)) (caps_next h (i:=i + d + 1) hj)
def Bd (req : Bm -> List Bm) (caps : List Bm) (m : Bm) : Prop:=∃ k,Rch req [m] k /\ capB caps k = true
theorem rch_head {req : Bm -> List Bm} {m k : Bm} (h : Rch req [m] k) : k = m \/ ∃ r,r ∈ req m /\ Rch req [r] k:=by
  induction h with
  | root hr=>exact Or.inl (by simpa using hr)
  | step hp hr ih=>
    rcases ih with rfl | ⟨r,h1,h2⟩
    · exact Or.inr ⟨_,hr,.root (by simp)⟩
    · exact Or.inr ⟨r,h1,.step h2 hr⟩
theorem rch_tail {req : Bm -> List Bm} {m r k : Bm} (hr : r ∈ req m) (h : Rch req [r] k) : Rch req [m] k:=by
  induction h with
  | root h1=>
    have:=List.mem_singleton.1 h1
    subst this
    exact .step (.root (by simp)) hr
  | step _ h2 ih=>exact .step ih h2
theorem bd_iff {req : Bm -> List Bm} {caps : List Bm} {m : Bm} : Bd req caps m ↔ capB caps m = true \/ ∃ r,r ∈ req m /\ Bd req caps r:=by
  constructor
  · rintro ⟨k,hk,hc⟩
    rcases rch_head hk with rfl | ⟨r,h1,h2⟩
    · exact Or.inl hc
    · exact Or.inr ⟨r,h1,k,h2,hc⟩
  · rintro (hc | ⟨r,h1,k,h2,hc⟩)
    · exact ⟨m,.root (by simp),hc⟩
    · exact ⟨k,rch_tail h1 h2,hc⟩
theorem bd_least {req : Bm -> List Bm} {caps : List Bm} {P : Bm -> Prop} (h0 : ∀ m,capB caps m = true -> P m) (h1 : ∀ m r,r ∈ req m -> P r -> P m) {m : Bm} (h : Bd req caps m) : P m:=by
  obtain ⟨k,hk,hc⟩:=h
  have hP:=h0 k hc
  clear hc
  induction hk with
  | root hr=>
    have:=List.mem_singleton.1 hr
    rw [<- this]; exact hP
  | step _ hr ih=>exact ih (h1 _ _ hr hP)
structure Lw (bad : Bm -> Prop) (U : List Bm) (r x : Bm) : Prop where
  mem : x ∈ U
  path : x.1 = r.1
  le : lessB (vb r) (vb x) = false
  ok : ¬ bad x
  top : ∀ y,y ∈ U -> y.1 = r.1 -> lessB (vb r) (vb y) = false -> ¬ bad y -> lessB (vb x) (vb y) = false
structure Tw (bad : Bm -> Prop) (U roots X : List Bm) : Prop where
  ri : X.Pairwise fun a b=>mAhead a b = true
  mem : ∀ x,x ∈ X ↔ ∃ r,r ∈ roots /\ Lw bad U r x
structure Un (U : List Bm) : Prop where
  ri : U.Pairwise fun a b=>mAhead a b = true
  ok : ∀ m,m ∈ U -> mErr m = 0
theorem lessB_of {s t : List UInt8} (h : lessB s t = true) : verErr s = 0 /\ verErr t = 0 /\ ordV s t < 0:=by
  unfold lessB at h
  simpa using h
theorem mAhead_lt {a b : Bm} (h : mAhead a b = true) : lt a.1 b.1 = true \/ (a.1 = b.1 /\ lessB (vb a) (vb b) = true):=by
  by_cases e : a.1 = b.1
  · rw [ahead_same e] at h; exact Or.inr ⟨e,h⟩
  · rw [ahead_other e] at h; exact Or.inl h
theorem lessB_asymm {s t : List UInt8} (h : lessB s t = true) : lessB t s = false:=by
  obtain ⟨h1,h2,h3⟩:=lessB_of h
  rw [less_right h2 h1,ordV_swap s t]
  simp
  omega
theorem lessB_irr (s : List UInt8) : lessB s s = false:=by
  cases h : lessB s s with
  | false=>rfl
  | true=>have:=lessB_asymm h; rw [h] at this; cases this
theorem mAhead_asymm {a b : Bm} (h : mAhead a b = true) : mAhead b a = false:=by
  rcases mAhead_lt h with h1 | ⟨e,h1⟩
  · rw [ahead_other (fun e=>by rw [e,lt_irrefl] at h1; cases h1)]
    exact lt_asymm h1
  · rw [ahead_same e.symm]; exact lessB_asymm h1
theorem ahead_ext : ∀ {E F : List Bm}, (E.Pairwise fun a b => mAhead a b = true) → (F.Pairwise fun a b => mAhead a b = true) → (∀ m, m ∈ E ↔ m ∈ F) → E = F
  | [],[],_,_,_=>rfl
  | [],f :: F,_,_,h=>by have:=(h f).2 (by simp); cases this
  | e :: E,[],_,_,h=>by have:=(h e).1 (by simp); cases this
  | e :: E, f :: F, hE, hF, h => by
    obtain ⟨hE1,hE2⟩:=List.pairwise_cons.1 hE
    obtain ⟨hF1,hF2⟩:=List.pairwise_cons.1 hF
    have irr : ∀ m : Bm,mAhead m m = true -> False:=fun m hm=>by have:=mAhead_asymm hm; rw [hm] at this; cases this
    have hef : e = f:=by
      rcases List.mem_cons.1 ((h e).1 (by simp)) with a | a
      · exact a
      · rcases List.mem_cons.1 ((h f).2 (by simp)) with b | b
        · exact b.symm
        · have h1:=hF1 e a
          have h2:=hE1 f b
          rw [mAhead_asymm h1] at h2; cases h2
    subst hef
    have : E = F:=ahead_ext hE2 hF2 fun m=>by
      constructor
      · intro hm
        rcases List.mem_cons.1 ((h m).1 (List.mem_cons_of_mem _ hm)) with a | a
        · subst a; exact (irr _ (hE1 m hm)).elim
        · exact a
      · intro hm
        rcases List.mem_cons.1 ((h m).2 (List.mem_cons_of_mem _ hm)) with a | a
        · subst a; exact (irr _ (hF1 m hm)).elim
        · exact a
    rw [this]
theorem Tw.one {bad : Bm -> Prop} {U roots X Y : List Bm} (h : Tw bad U roots X) (h' : Tw bad U roots Y) : X = Y:=
  ahead_ext h.ri h'.ri fun m=>(h.mem m).trans (h'.mem m).symm
theorem no_less {a b : Bm} (ha : mErr a = 0) (hb : mErr b = 0) (e : a.1 = b.1) (h1 : lessB (vb a) (vb b) = false) (h2 : lessB (vb b) (vb a) = false) : a = b:=by
  rw [less_right (mErr_zero ha).2 (mErr_zero hb).2] at h1
  rw [less_right (mErr_zero hb).2 (mErr_zero ha).2] at h2
  exact ver_same ha hb e (ordV_total (by simpa using h2)) (ordV_total (by simpa using h1))
theorem Lw.same {bad : Bm -> Prop} {U : List Bm} (u : Un U) {r x y : Bm} (h : Lw bad U r x) (h' : Lw bad U r y) : x = y:=
  no_less (u.ok x h.mem) (u.ok y h'.mem) (h.path.trans h'.path.symm) (h.top y h'.mem h'.path h'.le h'.ok) (h'.top x h.mem h.path h.le h.ok)
theorem Tw.from {bad : Bm -> Prop} {U roots X : List Bm} (h : Tw bad U roots X) {x : Bm} (hx : x ∈ X) : ∃ r,r ∈ roots /\ r.1 = x.1 /\ lessB (vb r) (vb x) = false:=
  let ⟨r,hr,h1⟩:=(h.mem x).1 hx
  ⟨r,hr,h1.path.symm,h1.le⟩
def lwB (U : List Bm) (O : List Bool) (r : Bm) (k : Nat) : Bool:=match U[k]?,O[k]? with
  | some u,some o=>decide (u.1 = r.1) && (!lessB (vb r) (vb u) && !o)
  | _,_=>false
theorem lwB_at {U : List Bm} {O : List Bool} {r : Bm} {k : Nat} (h : k < U.length) (h' : k < O.length) : lwB U O r k = (decide (U[k].1 = r.1) && (!lessB (vb r) (vb U[k]) && !O[k])):=by
  unfold lwB
  rw [List.getElem?_eq_getElem h,List.getElem?_eq_getElem h']
def bst (U : List Bm) (O : List Bool) (r : Bm) : Nat -> Int
  | 0=>-1
  | n + 1=>if lwB U O r n then (n : Int) else bst U O r n
theorem bst_is (U : List Bm) (O : List Bool) (r : Bm) : ∀ n, (bst U O r n = -1 ∧ ∀ k, k < n → lwB U O r k = false) ∨ ∃ k, k < n ∧ bst U O r n = k ∧ lwB U O r k = true ∧ ∀ j, k < j → j < n → lwB U O r j = false
  | 0=>Or.inl ⟨rfl,fun k h=>absurd h (Nat.not_lt_zero k)⟩
  | n + 1 => by
    unfold bst
    cases hl : lwB U O r n with
    | true=>exact Or.inr ⟨n,by omega,if_pos rfl,hl,fun j h1 h2=>by omega⟩
    | false=>
      rw [if_neg (by simp)]
      rcases bst_is U O r n with ⟨h1,h2⟩ | ⟨k,h1,h2,h3,h4⟩
      · refine Or.inl ⟨h1,fun k hk=>?_⟩
        rcases Nat.lt_or_ge k n with h | h
        · exact h2 k h
        · have : k = n:=by omega
          subst this; exact hl
      · refine Or.inr ⟨k,by omega,h2,h3,fun j hj hn=>?_⟩
        rcases Nat.lt_or_ge j n with h | h
        · exact h4 j hj h
        · have : j = n:=by omega
          subst this; exact hl
theorem bst_lw {bad : Bm → Prop} {U : List Bm} {O : List Bool} (u : Un U) (hl : O.length = U.length) (hO : ∀ i (h : i < U.length) (h' : i < O.length), O[i] = true ↔ bad U[i]) {r : Bm} {k : Nat} (hk : k < U.length) : bst U O r U.length = (k : Int) ↔ Lw bad U r U[k] := by
  have hw : ∀ i (h : i < U.length),lwB U O r i = true ↔ U[i].1 = r.1 /\ lessB (vb r) (vb U[i]) = false /\ ¬ bad U[i]:=fun i h=>by
    rw [lwB_at h (by omega),<- hO i h (by omega)]
    simp
  have hp:=List.pairwise_iff_getElem.1 u.ri
  constructor
  · intro e
    rcases bst_is U O r U.length with ⟨h1,_⟩ | ⟨j,h1,h2,h3,h4⟩
    · omega
    · have : j = k:=by omega
      subst this
      obtain ⟨a,b,c⟩:=(hw j hk).1 h3
      refine ⟨List.getElem_mem _,a,b,c,fun y hy e1 e2 e3=>?_⟩
      obtain ⟨i,hi,rfl⟩:=List.getElem_of_mem hy
      rcases Nat.lt_trichotomy i j with h | h | h
      · have:=hp i j hi hk h
        rw [ahead_same (e1.trans a.symm)] at this
        exact lessB_asymm this
      · subst h; exact lessB_irr _
      · have:=h4 i h hi
        rw [(hw i hi).2 ⟨e1,e2,e3⟩] at this; cases this
  · intro h
    have hk1:=(hw k hk).2 ⟨h.path,h.le,h.ok⟩
    rcases bst_is U O r U.length with ⟨_,h2⟩ | ⟨j,h1,h2,h3,h4⟩
    · rw [h2 k hk] at hk1; cases hk1
    · rw [h2]
      obtain ⟨a,b,c⟩:=(hw j h1).1 h3
      rcases Nat.lt_trichotomy k j with h5 | h5 | h5
      · have:=hp k j hk h1 h5
        rw [ahead_same (h.path.trans a.symm),h.top _ (List.getElem_mem _) a b c] at this; cases this
      · rw [h5]
      · rw [h4 k h5 hk] at hk1; cases hk1
def kpN (U : List Bm) (O : List Bool) (R : List Bm) : List Bool:=(List.range U.length).map fun (k : Nat)=>R.any fun r=>decide (bst U O r U.length = (k : Int))
theorem kpN_len (U : List Bm) (O : List Bool) (R : List Bm) : (kpN U O R).length = U.length:=by simp [kpN]
theorem kpN_at {U : List Bm} {O : List Bool} {R : List Bm} {k : Nat} (h : k < (kpN U O R).length) : (kpN U O R)[k] = R.any fun r=>decide (bst U O r U.length = (k : Int)):=by simp [kpN]
theorem kpN_zero (U : List Bm) (O : List Bool) : kpN U O [] = List.replicate U.length false:=by
  refine List.ext_getElem (by simp [kpN]) fun i h1 h2=>?_
  rw [kpN_at]; simp
theorem kpN_none {U : List Bm} {O : List Bool} {R : List Bm} {r : Bm} (h : bst U O r U.length < 0) : kpN U O (R ++ [r]) = kpN U O R:=by
  refine List.ext_getElem (by simp [kpN]) fun i h1 h2=>?_
  rw [kpN_at,kpN_at,List.any_append]
  have : ¬ bst U O r U.length = (i : Int):=by omega
  simp [this]
theorem kpN_some {U : List Bm} {O : List Bool} {R : List Bm} {r : Bm} {k : Nat} (h : bst U O r U.length = (k : Int)) : kpN U O (R ++ [r]) = (kpN U O R).set k true:=by
  refine List.ext_getElem (by simp [kpN]) fun i h1 h2=>?_
  rw [kpN_at,List.getElem_set,List.any_append]
  by_cases e : k = i
  · subst e
    rw [if_pos rfl]
    simp [h]
  · rw [if_neg e,kpN_at]
    have : ¬ bst U O r U.length = (i : Int):=by omega
    simp [this]
theorem tw_sel {bad : Bm -> Prop} {U : List Bm} {O : List Bool} (u : Un U) (hl : O.length = U.length) (hO : ∀ i (h : i < U.length) (h' : i < O.length),O[i] = true ↔ bad U[i]) (roots : List Bm) : Tw bad U roots (selO (kpN U O roots) U):=by
  classical
  have hn : ∀ i j (hi : i < U.length) (hj : j < U.length),U[i] = U[j] -> i = j:=fun i j hi hj e=>by
    have hp:=List.pairwise_iff_getElem.1 u.ri
    rcases Nat.lt_trichotomy i j with h | h | h
    · have:=hp i j hi hj h
      rw [e] at this
      have h2:=mAhead_asymm this
      rw [this] at h2; cases h2
    · exact h
    · have:=hp j i hj hi h
      rw [e] at this
      have h2:=mAhead_asymm this
      rw [this] at h2; cases h2
  have hs : selO (kpN U O roots) U = U.filter fun x=>decide (∃ r,r ∈ roots /\ ∃ k,∃ hk : k < U.length,U[k] = x /\ bst U O r U.length = (k : Int)):=by
    refine selO_filter _ _ _ (kpN_len _ _ _) fun i h h'=>?_
    rw [kpN_at,Bool.eq_iff_iff,List.any_eq_true,decide_eq_true_iff]
    constructor
    · rintro ⟨r,hr,hb⟩
      exact ⟨r,hr,i,h,rfl,by simpa using hb⟩
    · rintro ⟨r,hr,k,hk,e,hb⟩
      have:=hn k i hk h e
      subst this
      exact ⟨r,hr,by simpa using hb⟩
  rw [hs]
  refine ⟨u.ri.filter _,fun x=>?_⟩
  rw [List.mem_filter,decide_eq_true_iff]
  constructor
  · rintro ⟨_,r,hr,k,hk,rfl,hb⟩
    exact ⟨r,hr,(bst_lw u hl hO hk).1 hb⟩
  · rintro ⟨r,hr,h⟩
    obtain ⟨k,hk,rfl⟩:=List.getElem_of_mem h.mem
    exact ⟨h.mem,r,hr,k,hk,rfl,(bst_lw u hl hO hk).2 h⟩
structure Nd (req : Bm -> List Bm) (U : List Bm) (NV : List (List Nat)) : Prop where
  ln : NV.length = U.length
  fw : ∀ i (h : i < U.length) (h' : i < NV.length) r,r ∈ req U[i] -> ∃ k,∃ hk : k < U.length,k ∈ NV[i] /\ U[k] = r
  bk : ∀ i (h : i < U.length) (h' : i < NV.length) k,k ∈ NV[i] -> ∃ hk : k < U.length,U[k] ∈ req U[i]
structure Sd (req : Bm -> List Bm) (caps U : List Bm) (O : List Bool) : Prop where
  ln : O.length = U.length
  so : ∀ i (h : i < U.length) (h' : i < O.length),O[i] = true -> Bd req caps U[i]
  ca : ∀ i (h : i < U.length) (h' : i < O.length),capB caps U[i] = true -> O[i] = true
def anyO (O : List Bool) (P : List Nat) : Bool:=P.any fun k=>O[k]?.getD false
theorem anyO_iff {O : List Bool} {P : List Nat} : anyO O P = true ↔ ∃ k,∃ hk : k < O.length,k ∈ P /\ O[k] = true:=by
  unfold anyO
  rw [List.any_eq_true]
  constructor
  · rintro ⟨k,h1,h2⟩
    by_cases hk : k < O.length
    · rw [List.getElem?_eq_getElem hk] at h2
      exact ⟨k,hk,h1,h2⟩
    · rw [List.getElem?_eq_none (by omega)] at h2; cases h2
  · rintro ⟨k,hk,h1,h2⟩
    exact ⟨k,h1,by rw [List.getElem?_eq_getElem hk]; exact h2⟩
def Qt (NV : List (List Nat)) (O : List Bool) (i : Nat) : Prop:=∀ (h : i < O.length) (h' : i < NV.length),O[i] = false -> anyO O NV[i] = false
theorem Sd.set {req : Bm -> List Bm} {caps U : List Bm} {O : List Bool} {NV : List (List Nat)} (S : Sd req caps U O) (N : Nd req U NV) {i : Nat} (h : i < U.length) (h' : i < NV.length) (ha : anyO O NV[i] = true) : Sd req caps U (O.set i true):=by
  refine ⟨by rw [List.length_set]; exact S.ln,fun j hj hj' ho=>?_,fun j hj hj' hc=>?_⟩
  · rw [List.getElem_set] at ho
    by_cases e : i = j
    · subst e
      obtain ⟨k,hk,h1,h2⟩:=anyO_iff.1 ha
      obtain ⟨hk',h3⟩:=N.bk i h h' k h1
      exact bd_iff.2 (Or.inr ⟨_,h3,S.so k hk' hk h2⟩)
    · rw [if_neg e] at ho
      exact S.so j hj (by rw [S.ln]; exact hj) ho
  · rw [List.getElem_set]
    by_cases e : i = j
    · rw [if_pos e]
    · rw [if_neg e]; exact S.ca j hj (by rw [S.ln]; exact hj) hc
theorem Sd.done {req : Bm -> List Bm} {caps U : List Bm} {O : List Bool} {NV : List (List Nat)} (S : Sd req caps U O) (N : Nd req U NV) (hq : ∀ i,i < U.length -> Qt NV O i) : ∀ i (h : i < U.length) (h' : i < O.length),O[i] = true ↔ Bd req caps U[i]:=by
  intro i h h'
  refine ⟨S.so i h h',fun hb=>?_⟩
  refine bd_least (P:=fun m=>∀ j (hj : j < U.length) (hj' : j < O.length),U[j] = m -> O[j] = true) (fun m hm j hj hj' e=>S.ca j hj hj' (by rw [e]; exact hm)) (fun m r hr hP j hj hj' e=>?_) hb i h h' rfl
  cases ho : O[j] with
  | true=>rfl
  | false=>
    have hn : j < NV.length:=by rw [N.ln]; exact hj
    have hq:=hq j hj hj' hn ho
    obtain ⟨k,hk,h1,h2⟩:=N.fw j hj hn r (by rw [e]; exact hr)
    have hk' : k < O.length:=by rw [S.ln]; exact hk
    have:=anyO_iff.2 ⟨k,hk',h1,hP k hk hk' h2⟩
    rw [hq] at this; cases this
def dnL (k : Nat) : Nat -> List Nat
  | 0=>[]
  | t + 1=>dnL k t ++ [k - t]
theorem dnL_mem {k x : Nat} : ∀ t,t <= k + 1 -> (x ∈ dnL k t ↔ x <= k /\ k - t < x \/ (x = 0 /\ t = k + 1))
  | 0,_=>by
    constructor
    · intro h; cases h
    · rintro (⟨h1,h2⟩ | ⟨_,h⟩) <;> omega
  | t + 1,ht=>by
    show x ∈ dnL k t ++ [k - t] ↔ _
    rw [List.mem_append,dnL_mem t (by omega),List.mem_singleton]
    omega
theorem path_mid {U : List Bm} (u : Un U) {j i k : Nat} (hk : k < U.length) (h1 : j ≤ i) (h2 : i ≤ k) (e : (U[j]'(by omega)).1 = U[k].1) : (U[i]'(by omega)).1 = U[k].1 := by
  have hp:=List.pairwise_iff_getElem.1 u.ri
  rcases Nat.lt_or_ge i k with h3 | h3
  · rcases Nat.lt_or_ge j i with h4 | h4
    · rcases mAhead_lt (hp j i (by omega) (by omega) h4) with a | ⟨a,_⟩
      · rcases mAhead_lt (hp i k (by omega) hk h3) with b | ⟨b,_⟩
        · have:=lt_trans a b
          rw [e,lt_irrefl] at this; cases this
        · exact b
      · rw [<- a]; exact e
    · have : j = i:=by omega
      subst this; exact e
  · have : i = k:=by omega
    subst this; rfl
theorem lwB_down {U : List Bm} {O : List Bool} (u : Un U) (hl : O.length = U.length) {k : Nat} (hk : k < U.length) {j : Nat} (hj : j < U.length) : lwB U O U[k] j = true ↔ j <= k /\ U[j].1 = U[k].1 /\ O[j]'(by omega) = false:=by
  have hp:=List.pairwise_iff_getElem.1 u.ri
  rw [lwB_at hj (by omega)]
  simp only [Bool.and_eq_true,Bool.not_eq_true',decide_eq_true_eq]
  constructor
  · rintro ⟨h1,h2,h3⟩
    refine ⟨?_,h1,h3⟩
    rcases Nat.lt_or_ge k j with h | h
    · have:=hp k j hk hj h
      rw [ahead_same h1.symm,h2] at this; cases this
    · exact h
  · rintro ⟨h1,h2,h3⟩
    refine ⟨h2,?_,h3⟩
    rcases Nat.lt_or_ge j k with h | h
    · have:=hp j k hj hk h
      rw [ahead_same h2] at this
      exact lessB_asymm this
    · have : j = k:=by omega
      subst this; exact lessB_irr _
theorem bst_no {U : List Bm} {O : List Bool} (u : Un U) (hl : O.length = U.length) {k t : Nat} (hk : k < U.length) (ht : t <= k + 1) (hb : ∀ x,x ∈ dnL k t -> ∀ (h : x < O.length),O[x] = true) (he : t = k + 1 \/ ∀ (h : k - t < U.length),U[k - t].1 ≠ U[k].1) : bst U O U[k] U.length < 0:=by
  rcases bst_is U O U[k] U.length with ⟨h1,_⟩ | ⟨j,h1,h2,h3,_⟩
  · omega
  · obtain ⟨a,b,c⟩:=(lwB_down u hl hk h1).1 h3
    exfalso
    by_cases hm : j ∈ dnL k t
    · have:=hb j hm (by omega)
      rw [this] at c; cases c
    · rw [dnL_mem t ht] at hm
      rcases he with he | he
      · omega
      · exact he (by omega) (path_mid u hk (by omega) (by omega) b)
theorem bst_yes {U : List Bm} {O : List Bool} (u : Un U) (hl : O.length = U.length) {k t : Nat} (hk : k < U.length) (ht : t <= k) (hb : ∀ x,x ∈ dnL k t -> ∀ (h : x < O.length),O[x] = true) (hp : (U[k - t]'(by omega)).1 = U[k].1) (ho : O[k - t]'(by omega) = false) : bst U O U[k] U.length = ((k - t : Nat) : Int):=by
  have hw:=(lwB_down u hl hk (show k - t < U.length by omega)).2 ⟨by omega,hp,ho⟩
  rcases bst_is U O U[k] U.length with ⟨_,h2⟩ | ⟨j,h1,h2,h3,h4⟩
  · rw [h2 _ (by omega)] at hw; cases hw
  · rw [h2]
    obtain ⟨a,b,c⟩:=(lwB_down u hl hk h1).1 h3
    rcases Nat.lt_trichotomy j (k - t) with h | h | h
    · rw [h4 _ h (by omega)] at hw; cases hw
    · rw [h]
    · have:=hb j ((dnL_mem t (by omega)).2 (by omega)) (by omega)
      rw [this] at c; cases c
set_option maxHeartbeats 1000000 in
theorem vcheckD (s : ByteArray) (aT aB : Addr) (m : Int) (w : World) (hs : s.size < 4294967281) (S : Vs w aT aB m) :
    Calls Tryz.prog 143 #[.string s] w fun e w'=>e = .returned (errV aT aB (verErr s.data.toList)) /\ Below w.heap.size w w':=by
  have HC:=hid (vsplit_any s aT aB m w hs S)
  clear S
  go_enter Tryz.func143,Tryz.ntmps143
  go_wp2_with fail
  refine HC.out.mono ?_
  rintro e w1 ⟨h1,hb⟩
  have HB:=hid hb
  clear hb
  rcases h1 with ⟨h0,rfl⟩ | ⟨h0,v,X,rfl,_,hst⟩
  · obtain ⟨a,ha⟩:=errV_ne aT aB h0
    have HE:=hid ha
    rw [ha]
    clear h0 ha
    go_wp2_with fail
    go_ret
    exact ⟨by rw [HE.out]; rfl,HB.out.alloc HB.out.size _⟩
  · obtain ⟨p,n,c,rfl⟩:=hst.slice
    have HE:=hid (show errV aT aB (verErr s.data.toList) = .nilIface by rw [h0]; rfl)
    clear h0 hst
    go_wp2_with fail
    go_ret
    exact ⟨by rw [HE.out]; rfl,HB.out.alloc HB.out.size _⟩
def capV (l : List UInt8) : Nat:=if l = noneL then 0 else verErr l
set_option maxHeartbeats 1000000 in
theorem ckV_any (s : ByteArray) (A : Nat -> Addr) (m : Int) (w : World) (hs : s.size < 4294967281) (S : Te w A m) :
    Calls Tryz.prog 102 #[.string s] w fun e w'=>e = .returned (errA A (capV s.data.toList)) /\ Below w.heap.size w w':=by
  have HC:=hid (vcheckD s (A 0) (A 1) m w hs S.vs)
  clear S
  by_cases h : s.data.toList = noneL
  · have HX:=hid (show capV s.data.toList = 0 from if_pos h)
    have hq : (s.toList == [110,111,110,101]) = true:=by rw [ByteArray.toList_eq]; exact beq_iff_eq.2 h
    clear h
    go_enter Tryz.func102,Tryz.ntmps102
    go_wp2_with fail
    go_ret
    exact ⟨by rw [HX.out]; rfl,Below.refl _ _⟩
  · have HX:=hid (show capV s.data.toList = verErr s.data.toList from if_neg h)
    have HV:=hid (errA_V A (verErr s.data.toList) (verErr_err _))
    have hq : (s.toList == [110,111,110,101]) = false:=by rw [ByteArray.toList_eq]; exact beq_eq_false_iff_ne.2 h
    clear h
    rw [HV.out] at HC
    obtain ⟨r,hr⟩ : ∃ r,errA A (verErr s.data.toList) = r:=⟨_,rfl⟩
    have HR:=hid hr
    rw [hr] at HC
    clear hr
    go_enter Tryz.func102,Tryz.ntmps102
    go_wp2_with fail
    refine HC.out.mono ?_
    rintro e w1 ⟨rfl,hb⟩
    have HB:=hid hb
    clear hb
    go_wp2_with fail
    go_ret
    exact ⟨by rw [HX.out,HR.out]; rfl,HB.out⟩
theorem capV_err {m : Bm} (h : capV (vb m) ≠ 0) : vb m ≠ noneL /\ verErr (vb m) ≠ 0:=by
  unfold capV at h
  by_cases e : vb m = noneL
  · rw [if_pos e] at h; exact absurd rfl h
  · rw [if_neg e] at h; exact ⟨e,h⟩
theorem capV_zero {m : Bm} (h : capV (vb m) = 0) : vb m = noneL \/ verErr (vb m) = 0:=by
  unfold capV at h
  by_cases e : vb m = noneL
  · exact Or.inl e
  · rw [if_neg e] at h; exact Or.inr h
theorem capV_is {m : Bm} (h : capV (vb m) ≠ 0) : capV (vb m) = verErr (vb m):=if_neg (capV_err h).1
set_option maxHeartbeats 1000000 in
theorem ckK_path (i : Int) (p v : ByteArray) (x : Value) (pr : Option Bm) (A : Nat -> Addr) (m : Int) (W : World) (hp : p.size < 999999) (S : Te W A m) (h : pathErr p.data.toList ≠ 0) :
    Calls Tryz.prog 100 #[.int .i64 i,.agg #[.string p,.string v],x] W fun e w'=>e = .returned (errA A (capW pr (p,v))) /\ Below W.heap.size W w':=by
  rw [capW_path (m:=(p,v)) h,errA_if A h]
  have HB0:=hid ((Below.refl W.heap.size W).alloc (Nat.le_refl _) (.cells #[.string p,.string v] 25))
  have HC:=hid (mpath_ix p A m _ (by omega) (S.below HB0.out))
  rw [errA_if A h] at HC
  clear S h
  go_enter Tryz.func100,Tryz.ntmps100
  go_wp2_with fail
  refine HC.out.mono ?_
  rintro e w1 ⟨rfl,hb⟩
  have HB:=hid (HB0.out.trans (hb.mono HB0.out.size))
  clear hb
  go_wp2_with fail
  go_ret
  exact ⟨rfl,HB.out⟩
set_option maxHeartbeats 1000000 in
theorem ckK_ver (i : Int) (p v : ByteArray) (x : Value) (pr : Option Bm) (A : Nat -> Addr) (m : Int) (W : World) (hp : p.size < 999999) (hv : v.size < 999999) (S : Te W A m) (h : pathErr p.data.toList = 0) (h1 : capV v.data.toList ≠ 0) :
    Calls Tryz.prog 100 #[.int .i64 i,.agg #[.string p,.string v],x] W fun e w'=>e = .returned (errA A (capW pr (p,v))) /\ Below W.heap.size W w':=by
  rw [capW_ver (m:=(p,v)) h (capV_err (m:=(p,v)) h1).1 (capV_err (m:=(p,v)) h1).2,<- capV_is (m:=(p,v)) h1]
  show Calls Tryz.prog 100 #[.int .i64 i,.agg #[.string p,.string v],x] W fun e w'=>e = .returned (errA A (capV v.data.toList)) /\ Below W.heap.size W w'
  rw [errA_if A h1]
  have HB0:=hid ((Below.refl W.heap.size W).alloc (Nat.le_refl _) (.cells #[.string p,.string v] 25))
  have HC:=hid (mpath_ix p A m _ (by omega) (S.below HB0.out))
  rw [h,errA0] at HC
  have HV:=hid (fun W' (h : Below W.heap.size W W')=>ckV_any v A m W' (by omega) (S.below h))
  rw [errA_if A h1] at HV
  clear S h h1
  go_enter Tryz.func100,Tryz.ntmps100
  go_wp2_with fail
  refine HC.out.mono ?_
  rintro e w1 ⟨rfl,hb⟩
  obtain ⟨⟨r0,r1⟩,rz⟩:=res2 (hb.mono (by simp))
  have HB:=hid (HB0.out.trans (hb.mono HB0.out.size))
  clear hb
  go_wp2_with fail
  refine (HV.out _ HB.out).mono ?_
  rintro e w2 ⟨rfl,hb⟩
  have HB2:=hid (HB.out.trans (hb.mono HB.out.size))
  clear hb
  go_wp2_with fail
  go_ret
  exact ⟨rfl,HB2.out⟩
set_option maxHeartbeats 1000000 in
theorem ckK_0 (p v : ByteArray) (x : Value) (A : Nat -> Addr) (m : Int) (W : World) (hp : p.size < 999999) (hv : v.size < 999999) (S : Te W A m) (h : pathErr p.data.toList = 0) (h1 : capV v.data.toList = 0) :
    Calls Tryz.prog 100 #[.int .i64 0,.agg #[.string p,.string v],x] W fun e w'=>e = .returned (errA A (capW none (p,v))) /\ Below W.heap.size W w':=by
  rw [capW_first (m:=(p,v)) h (capV_zero (m:=(p,v)) h1),errA0]
  have HB0:=hid ((Below.refl W.heap.size W).alloc (Nat.le_refl _) (.cells #[.string p,.string v] 25))
  have HC:=hid (mpath_ix p A m _ (by omega) (S.below HB0.out))
  rw [h,errA0] at HC
  have HV:=hid (fun W' (h : Below W.heap.size W W')=>ckV_any v A m W' (by omega) (S.below h))
  rw [h1,errA0] at HV
  clear S h h1
  go_enter Tryz.func100,Tryz.ntmps100
  go_wp2_with fail
  refine HC.out.mono ?_
  rintro e w1 ⟨rfl,hb⟩
  obtain ⟨⟨r0,r1⟩,rz⟩:=res2 (hb.mono (by simp))
  have HB:=hid (HB0.out.trans (hb.mono HB0.out.size))
  clear hb
  go_wp2_with fail
  refine (HV.out _ HB.out).mono ?_
  rintro e w2 ⟨rfl,hb⟩
  have HB2:=hid (HB.out.trans (hb.mono HB.out.size))
  have s0:=cell_below hb r0
  clear hb
  go_wp2_with fail
  go_quiet (fail)
  go_wp2_with fail
  go_ret
  exact ⟨rfl,below_drawn_of HB2.out _⟩
set_option maxHeartbeats 1000000 in
theorem ckK_1 (k : Nat) (p v q u : ByteArray) (b2 b o n c : Nat) (A : Nat -> Addr) (m : Int) (W : World) (hp : p.size < 999999) (hv : v.size < 999999) (S : Te W A m) (h : pathErr p.data.toList = 0) (h1 : capV v.data.toList = 0)
    (h2 : W.cell? ⟨b2,0,none⟩ = some (.slice (some ⟨b,o,none⟩) n c)) (hk : k < n) (hn : n <= 1000000) (h3 : W.cell? ⟨b,o + k * 2,none⟩ = some (.string q)) :
    Calls Tryz.prog 100 #[.int .i64 ((k : Int) + 1),.agg #[.string p,.string v],.pointer (some ⟨b2,0,none⟩)] W fun e w'=>e = .returned (errA A (capW (some (q,u)) (p,v))) /\ Below W.heap.size W w':=by
  have hge : ∀ X : World,(binOp BinOp.geq 9 (.string q) (.string p)).run Tryz.prog X = .ok (.bool (noLess q p)) X:=fun X=>by rw [<- noLess_is]; rfl
  have HB0:=hid ((Below.refl W.heap.size W).alloc (Nat.le_refl _) (.cells #[.string p,.string v] 25))
  have HC:=hid (mpath_ix p A m _ (by omega) (S.below HB0.out))
  rw [h,errA0] at HC
  have HV:=hid (fun W' (h : Below W.heap.size W W')=>ckV_any v A m W' (by omega) (S.below h))
  rw [h1,errA0] at HV
  have HG:=hid (fun X (h : Below W.heap.size W X)=>(S.below h).sen.g7)
  have H2:=hid h2
  have H3:=hid h3
  have HZ:=hid (show capV v.data.toList = 0 from h1)
  have HP:=hid h
  clear S h h1 h2 h3
  have g1 : (0 : Int) <= (k : Int):=by omega
  have g2 : (k : Int) < (n : Int):=by omega
  have g3 : (k : Int) + 1 - 1 = (k : Int):=by omega
  have g4 : (0 : Int) < (k : Int) + 1:=by omega
  have gw : IntKind.i64.wrap (k : Int) = (k : Int):=by rw [IntKind.wrap_i64]; omega
  cases hz : noLess q p
  · rw [capW_right (p:=(q,u)) (m:=(p,v)) HP.out (capV_zero (m:=(p,v)) HZ.out) hz,errA0]
    rw [hz] at hge
    clear hz
    go_enter Tryz.func100,Tryz.ntmps100
    go_wp2_with fail
    refine HC.out.mono ?_
    rintro e w1 ⟨rfl,hb⟩
    obtain ⟨⟨r0,r1⟩,rz⟩:=res2 (hb.mono (by simp))
    have HB:=hid (HB0.out.trans (hb.mono HB0.out.size))
    clear hb
    go_wp2_with fail
    refine (HV.out _ HB.out).mono ?_
    rintro e w2 ⟨rfl,hb⟩
    have HB2:=hid (HB.out.trans (hb.mono HB.out.size))
    have s0:=cell_below hb r0
    have c2:=cell_below HB2.out H2.out
    have c3:=cell_below HB2.out H3.out
    clear hb r0 r1 rz
    go_wp2_with fail
    go_quiet (fail)
    go_wp2_with fail
    go_ret
    exact ⟨rfl,below_drawn_of HB2.out _⟩
  · rw [capW_order (p:=(q,u)) (m:=(p,v)) HP.out (capV_zero (m:=(p,v)) HZ.out) hz,errA_if A (by omega)]
    rw [hz] at hge
    clear hz
    go_enter Tryz.func100,Tryz.ntmps100
    go_wp2_with fail
    refine HC.out.mono ?_
    rintro e w1 ⟨rfl,hb⟩
    obtain ⟨⟨r0,r1⟩,rz⟩:=res2 (hb.mono (by simp))
    have HB:=hid (HB0.out.trans (hb.mono HB0.out.size))
    clear hb
    go_wp2_with fail
    refine (HV.out _ HB.out).mono ?_
    rintro e w2 ⟨rfl,hb⟩
    have HB2:=hid (HB.out.trans (hb.mono HB.out.size))
    have s0:=cell_below hb r0
    have c2:=cell_below HB2.out H2.out
    have c3:=cell_below HB2.out H3.out
    have gg:=HG.out _ HB2.out
    clear hb r0 r1 rz
    go_wp2_with fail
    go_quiet (fail)
    go_wp2_with fail
    go_ret
    exact ⟨rfl,below_drawn_of HB2.out _⟩
theorem capE_0 {L : List Bm} (h : 0 < L.length) : capE L 0 = capW none L[0]:=by
  unfold capE prevOf; rw [List.getElem?_eq_getElem h]; rfl
theorem capE_1 {L : List Bm} {k : Nat} (h : k + 1 < L.length) : capE L (k + 1) = capW (some (L[k]'(by omega))) L[k + 1]:=by
  unfold capE prevOf; rw [List.getElem?_eq_getElem h,if_neg (by omega)]; simp only [Nat.add_sub_cancel]; rw [List.getElem?_eq_getElem (show k < L.length by omega)]
theorem ckK_any (L : List Bm) (b2 : Nat) (v : Value) (A : Nat -> Addr) (m : Int) (W : World) (hL : L.length <= 1000000) (hs : shortL L) (S : Te W A m) (h2 : W.cell? ⟨b2,0,none⟩ = some v) (hv : MsAt W v L) (i : Nat) (hi : i < L.length) :
    Calls Tryz.prog 100 (#[.int .i64 (i : Int),.agg #[.string L[i].1,.string L[i].2]] ++ #[.pointer (some ⟨b2,0,none⟩)]) W fun e w'=>e = .returned (errA A (capE L i)) /\ Below W.heap.size W w':=by
  obtain ⟨a,c,rfl,_,h⟩:=hv
  obtain ⟨b,o,rfl,hc⟩:=h (by intro e; rw [e] at hi; simp at hi)
  have hz:=hs L[i] (List.getElem_mem hi)
  cases i with
  | zero=>
    rw [capE_0 hi]
    by_cases e0 : pathErr L[0].1.data.toList = 0
    · by_cases e1 : capV L[0].2.data.toList = 0
      · exact ckK_0 L[0].1 L[0].2 _ A m W hz.1 hz.2 S e0 e1
      · exact ckK_ver 0 L[0].1 L[0].2 _ none A m W hz.1 hz.2 S e0 e1
    · exact ckK_path 0 L[0].1 L[0].2 _ none A m W hz.1 S e0
  | succ k=>
    rw [capE_1 hi]
    by_cases e0 : pathErr L[k + 1].1.data.toList = 0
    · by_cases e1 : capV L[k + 1].2.data.toList = 0
      · exact ckK_1 k L[k + 1].1 L[k + 1].2 L[k].1 L[k].2 b2 b o L.length c A m W hz.1 hz.2 S e0 e1 h2 (by omega) hL (hc k (by omega)).1
      · exact ckK_ver _ L[k + 1].1 L[k + 1].2 _ _ A m W hz.1 hz.2 S e0 e1
    · exact ckK_path _ L[k + 1].1 L[k + 1].2 _ _ A m W hz.1 S e0
set_option maxHeartbeats 1000000 in
theorem caps_any (L : List Bm) (v : Value) (A : Nat -> Addr) (m : Int) (w : World) (hL : L.length <= 1000000) (hs : shortL L) (S : Te w A m) (hv : MsAt w v L) :
    Calls Tryz.prog 50 #[v] w fun e w'=>∃ u,e = .returned u /\ ErrAt w' A u (chkP L).1 (chkP L).2 /\ Below w.heap.size w w':=by
  obtain ⟨vp,vn,vc,rfl⟩:=hv.slice
  have HB0:=hid ((Below.refl w.heap.size w).alloc (Nat.le_refl _) (.cells #[.slice vp vn vc] 23))
  have eg : ∀ args w,(callFunc 100 args).run Tryz.prog w = .ok (.enter 100 args) w:=enters_of Tryz.func100 (by kernel_rfl) rfl
  have HF:=hid (first_any 100 #[.pointer (some ⟨w.heap.size,0,none⟩)] (capE L) L _ A (w.alloc (.cells #[.slice vp vn vc] 23)) eg hL (hv.below HB0.out) (fun i hi W hW=>
    ckK_any L w.heap.size _ A m W hL hs ((S.below HB0.out).below hW) (cell_below hW (by simp)) ((hv.below HB0.out).below hW) i hi))
  clear S hv eg
  go_enter Tryz.func50,Tryz.ntmps50
  go_wp2_with fail
  refine HF.out.mono ?_
  rintro e w1 ⟨u,rfl,he,hb⟩
  have HB:=hid (HB0.out.trans (hb.mono HB0.out.size))
  have HE:=hid he
  clear hb he
  go_wp2_with fail
  go_ret
  exact ⟨_,rfl,HE.out,HB.out⟩
end Ve
end Go.Proofs.YtlcffhadobhfkaaGreatDoor
