/-
  GrA VerB
-/
import Derived.Test.YtlcffhadobhfkaaGreatDoorMq2
import Derived.Test.YtlcffhadobhfkaaGreatDoorMq5
namespace Go.Proofs.YtlcffhadobhfkaaGreatDoor
namespace Ve
abbrev By:=List (Bm × Bm)
def whoT (T : By) : List Bm:=T.map fun x=>x.1
theorem whoT_len (T : By) : (whoT T).length = T.length:=by simp [whoT]
theorem whoT_get {T : By} {k : Nat} (h : k < T.length) : (whoT T)[k]'(by rw [whoT_len]; exact h) = T[k].1:=by simp [whoT]
theorem whoT_mem {T : By} {m : Bm} : m ∈ whoT T ↔ ∃ k,∃ h : k < T.length,T[k].1 = m:=by
  constructor
  · intro h
    obtain ⟨k,hk,e⟩:=List.getElem_of_mem h
    have hk2 : k < T.length:=by rw [<- whoT_len]; exact hk
    exact ⟨k,hk2,by rw [<- whoT_get hk2]; exact e⟩
  · rintro ⟨k,h,rfl⟩
    exact List.mem_map.2 ⟨T[k],List.getElem_mem h,rfl⟩
def cameB (T : By) (m : Bm) : Bool:=T.any fun x=>decide (x.1.1 = m.1 /\ x.1.2 = m.2)
theorem cameB_iff {T : By} {m : Bm} : cameB T m = true ↔ m ∈ whoT T:=by
  unfold cameB
  rw [List.any_eq_true]
  constructor
  · rintro ⟨x,hx,h⟩
    have h2:=of_decide_eq_true h
    exact List.mem_map.2 ⟨x,hx,Prod.ext h2.1 h2.2⟩
  · intro h
    obtain ⟨x,hx,e⟩:=List.mem_map.1 h
    exact ⟨x,hx,decide_eq_true (by rw [e]; exact ⟨rfl,rfl⟩)⟩
theorem cameB_not {T : By} {m : Bm} (h : cameB T m = false) : m ∉ whoT T:=fun hm=>by rw [cameB_iff.2 hm] at h; cases h
def comeT (T : By) (m f : Bm) : By:=if cameB T m then T else T ++ [(m,f)]
theorem come_yes {T : By} {m f : Bm} (h : cameB T m = true) : comeT T m f = T:=by unfold comeT; rw [if_pos h]
theorem come_no {T : By} {m f : Bm} (h : cameB T m = false) : comeT T m f = T ++ [(m,f)]:=by unfold comeT; rw [h]; rfl
theorem whoT_app (T : By) (m f : Bm) : whoT (T ++ [(m,f)]) = whoT T ++ [m]:=by simp [whoT]
theorem come_mem (T : By) (m f : Bm) : m ∈ whoT (comeT T m f):=by
  cases h : cameB T m
  · rw [come_no h,whoT_app]; simp
  · rw [come_yes h]; exact cameB_iff.1 h
theorem come_sub {T : By} {m f x : Bm} (h : x ∈ whoT T) : x ∈ whoT (comeT T m f):=by
  cases hc : cameB T m
  · rw [come_no hc,whoT_app]; simp [h]
  · rw [come_yes hc]; exact h
theorem come_old (T : By) (m f : Bm) : ∃ R,comeT T m f = T ++ R:=by
  cases hc : cameB T m
  · exact ⟨[(m,f)],come_no hc⟩
  · exact ⟨[],by rw [come_yes hc]; simp⟩
theorem nd_len {α : Type} [DecidableEq α] : ∀ (a b : List α),a.Nodup -> (∀ x,x ∈ a -> x ∈ b) -> a.length <= b.length
  | [],_,_,_=>Nat.zero_le _
  | x :: a,b,hn,hs=>by
    obtain ⟨h1,h2⟩:=List.nodup_cons.1 hn
    have hx:=hs x (by simp)
    have h3:=nd_len a (b.erase x) h2 (fun y hy=>(List.mem_erase_of_ne (fun e=>h1 (by rw [<- e]; exact hy))).2 (hs y (List.mem_cons_of_mem _ hy)))
    rw [List.length_erase_of_mem hx] at h3
    have:=List.length_pos_of_mem hx
    simp
    omega
structure Bfs (req : Bm -> List Bm) (U roots : List Bm) (T : By) (i : Nat) : Prop where
  le : i <= T.length
  nd : (whoT T).Nodup
  un : ∀ m,m ∈ whoT T -> m ∈ U
  by_ : ∀ k (h : k < T.length),(T[k].1 = T[k].2 /\ T[k].1 ∈ roots) \/ ∃ j,∃ hj : j < k,(T[j]'(Nat.lt_trans hj h)).1 = T[k].2 /\ T[k].1 ∈ req T[k].2
  cl : ∀ j (h : j < T.length),j < i -> ∀ m,m ∈ req T[j].1 -> m ∈ whoT T
theorem Bfs.none (req : Bm -> List Bm) (U roots : List Bm) : Bfs req U roots [] 0:=⟨Nat.le_refl _,by simp [whoT],fun m h=>by simp [whoT] at h,fun k h=>absurd h (Nat.not_lt_zero _),fun j h=>absurd h (Nat.not_lt_zero _)⟩
theorem Bfs.len {req : Bm -> List Bm} {U roots : List Bm} {T : By} {i : Nat} (h : Bfs req U roots T i) : T.length <= U.length:=by
  have:=nd_len (whoT T) U h.nd h.un
  rw [whoT_len] at this
  exact this
theorem Bfs.come {req : Bm -> List Bm} {U roots : List Bm} {T : By} {i : Nat} (h : Bfs req U roots T i) {m f : Bm} (hm : m ∈ U) (hf : (m = f /\ m ∈ roots) \/ (f ∈ whoT T /\ m ∈ req f)) : Bfs req U roots (comeT T m f) i:=by
  cases hc : cameB T m
  · rw [come_no hc]
    have hn : m ∉ whoT T:=cameB_not hc
    refine ⟨by have:=h.le; simp; omega,?_,?_,?_,?_⟩
    · rw [whoT_app]
      exact List.nodup_append.2 ⟨h.nd,by simp,fun a ha b hb e=>by simp at hb; subst hb; subst e; exact hn ha⟩
    · intro x hx
      rw [whoT_app] at hx
      rcases List.mem_append.1 hx with hx | hx
      · exact h.un x hx
      · simp at hx; subst hx; exact hm
    · intro k hk
      by_cases hkT : k < T.length
      · have e : (T ++ [(m,f)])[k] = T[k]:=List.getElem_append_left hkT
        rw [e]
        rcases h.by_ k hkT with h1 | ⟨j,hj,h2,h3⟩
        · exact Or.inl h1
        · exact Or.inr ⟨j,hj,by rw [List.getElem_append_left (by omega)]; exact h2,h3⟩
      · have hk2 : k = T.length:=by simp at hk; omega
        subst hk2
        have e : (T ++ [(m,f)])[T.length] = (m,f):=by simp
        rw [e]
        rcases hf with hf | ⟨hf,hr⟩
        · exact Or.inl hf
        · obtain ⟨j,hj,ej⟩:=whoT_mem.1 hf
          exact Or.inr ⟨j,hj,by rw [List.getElem_append_left hj]; exact ej,hr⟩
    · intro j hj hji x hx
      rw [whoT_app]
      by_cases hjT : j < T.length
      · rw [List.getElem_append_left hjT] at hx
        exact List.mem_append_left _ (h.cl j hjT hji x hx)
      · have:=h.le; omega
  · rw [come_yes hc]; exact h
theorem Bfs.next {req : Bm -> List Bm} {U roots : List Bm} {T : By} {i : Nat} (h : Bfs req U roots T i) (hi : i < T.length) (hr : ∀ m,m ∈ req T[i].1 -> m ∈ whoT T) : Bfs req U roots T (i + 1):=
  ⟨hi,h.nd,h.un,h.by_,fun j hj hji m hm=>by
    rcases Nat.lt_or_ge j i with h1 | h1
    · exact h.cl j hj h1 m hm
    · have : j = i:=by omega
      subst this
      exact hr m hm⟩
inductive Rch (req : Bm -> List Bm) (roots : List Bm) : Bm -> Prop
  | root {m : Bm} : m ∈ roots -> Rch req roots m
  | step {p m : Bm} : Rch req roots p -> m ∈ req p -> Rch req roots m
theorem Bfs.only {req : Bm -> List Bm} {U roots : List Bm} {T : By} {i : Nat} (h : Bfs req U roots T i) : ∀ (n k : Nat) (hk : k < T.length),k <= n -> Rch req roots T[k].1
  | 0,k,hk,hn=>by
    rcases h.by_ k hk with h1 | ⟨j,hj,_⟩
    · exact .root h1.2
    · omega
  | n + 1,k,hk,hn=>by
    rcases h.by_ k hk with h1 | ⟨j,hj,h2,h3⟩
    · exact .root h1.2
    · have:=h.only n j (by omega) (by omega)
      rw [h2] at this
      exact .step this h3
theorem nd_get {T : By} (h : (whoT T).Nodup) {i j : Nat} (hi : i < T.length) (hj : j < T.length) (e : T[i].1 = T[j].1) : i = j:=by
  rw [<- whoT_get hi,<- whoT_get hj] at e
  have hp:=List.pairwise_iff_getElem.1 h
  rcases Nat.lt_trichotomy i j with h1 | h1 | h1
  · exact absurd e (hp i j (by rw [whoT_len]; exact hi) (by rw [whoT_len]; exact hj) h1)
  · exact h1
  · exact absurd e.symm (hp j i (by rw [whoT_len]; exact hj) (by rw [whoT_len]; exact hi) h1)
inductive Wn (req : Bm -> List Bm) (roots : List Bm) : Nat -> Bm -> Prop
  | root {m : Bm} : m ∈ roots -> Wn req roots 1 m
  | step {n : Nat} {p m : Bm} : Wn req roots n p -> m ∈ req p -> Wn req roots (n + 1) m
theorem Wn.pos {req : Bm -> List Bm} {roots : List Bm} {n : Nat} {m : Bm} (h : Wn req roots n m) : 1 <= n:=by
  cases h with
  | root _=>exact Nat.le_refl _
  | step _ _=>omega
def Dst (req : Bm -> List Bm) (roots : List Bm) (m : Bm) (n : Nat) : Prop:=Wn req roots n m /\ ∀ k,Wn req roots k m -> n <= k
theorem Dst.one {req : Bm -> List Bm} {roots : List Bm} {m : Bm} {a b : Nat} (ha : Dst req roots m a) (hb : Dst req roots m b) : a = b:=Nat.le_antisymm (ha.2 b hb.1) (hb.2 a ha.1)
structure LvOk (req : Bm -> List Bm) (roots : List Bm) (T : By) (i : Nat) (V : List Nat) : Prop where
  ln : V.length = T.length
  wn : ∀ k (h : k < T.length) (h' : k < V.length),Wn req roots V[k] T[k].1
  st : ∀ k (h : k < T.length) (h' : k < V.length),(T[k].1 = T[k].2 /\ V[k] = 1) \/ ∃ j,∃ hj : j < k,(T[j]'(Nat.lt_trans hj h)).1 = T[k].2 /\ V[k] = (V[j]'(Nat.lt_trans hj h')) + 1
  mo : ∀ a b (hb : b < V.length) (hab : a < b),(V[a]'(Nat.lt_trans hab hb)) <= V[b]
  nx : ∀ k (h : k < V.length) (hi : i < V.length),V[k] <= V[i] + 1
  pr : ∀ j (h : j < T.length) (h' : j < V.length),j < i -> ∀ m,m ∈ req T[j].1 -> ∃ k,∃ hk : k < T.length,∃ hk' : k < V.length,T[k].1 = m /\ V[k] <= V[j] + 1
  rt : ∀ k (h : k < T.length) (h' : k < V.length),T[k].1 ∈ roots -> V[k] = 1
theorem LvOk.none (req : Bm -> List Bm) (roots : List Bm) : LvOk req roots [] 0 []:=
  ⟨rfl,fun _ h=>absurd h (Nat.not_lt_zero _),fun _ h=>absurd h (Nat.not_lt_zero _),fun _ _ hb=>absurd hb (Nat.not_lt_zero _),fun _ h=>absurd h (Nat.not_lt_zero _),fun _ h=>absurd h (Nat.not_lt_zero _),fun _ h=>absurd h (Nat.not_lt_zero _)⟩
theorem LvOk.push {req : Bm -> List Bm} {roots : List Bm} {T : By} {i : Nat} {V : List Nat} (h : LvOk req roots T i V) {m f : Bm} {l : Nat} (hw : Wn req roots l m)
    (hs : (m = f /\ l = 1) \/ ∃ j,∃ hj : j < T.length,T[j].1 = f /\ l = (V[j]'(by rw [h.ln]; exact hj)) + 1) (hm : ∀ k (hk : k < V.length),V[k] <= l) (hn : ∀ (hi : i < V.length),l <= V[i] + 1) (hi0 : i <= T.length) (hi1 : i = V.length -> l <= l + 1) (hr : m ∈ roots -> l = 1) : LvOk req roots (T ++ [(m,f)]) i (V ++ [l]):=by
  have hl : V.length = T.length:=h.ln
  have gT : ∀ k (hk : k < T.length) (hk' : k < (T ++ [(m,f)]).length),(T ++ [(m,f)])[k] = T[k]:=fun k hk _=>List.getElem_append_left hk
  have gV : ∀ k (hk : k < V.length) (hk' : k < (V ++ [l]).length),(V ++ [l])[k] = V[k]:=fun k hk _=>List.getElem_append_left hk
  have eT : ∀ (hk' : T.length < (T ++ [(m,f)]).length),(T ++ [(m,f)])[T.length] = (m,f):=fun _=>by simp
  have eV : ∀ (hk' : T.length < (V ++ [l]).length),(V ++ [l])[T.length] = l:=fun _=>by
    have : ∀ (n : Nat) (hn : n = V.length) (hk : n < (V ++ [l]).length),(V ++ [l])[n] = l:=fun n hn hk=>by subst hn; simp
    exact this _ hl.symm _
  refine ⟨by simp [hl],?_,?_,?_,?_,?_,?_⟩
  · intro k hk hk'
    by_cases hT : k < T.length
    · rw [gT k hT hk,gV k (by omega) hk']; exact h.wn k hT _
    · have : k = T.length:=by simp at hk; omega
      subst this
      rw [eT hk,eV hk']; exact hw
  · intro k hk hk'
    by_cases hT : k < T.length
    · rw [gT k hT hk,gV k (by omega) hk']
      rcases h.st k hT (by omega) with h1 | ⟨j,hj,h2,h3⟩
      · exact Or.inl h1
      · exact Or.inr ⟨j,hj,by rw [gT j (by omega)]; exact h2,by rw [gV j (by omega)]; exact h3⟩
    · have : k = T.length:=by simp at hk; omega
      subst this
      rw [eT hk,eV hk']
      rcases hs with h1 | ⟨j,hj,h2,h3⟩
      · exact Or.inl h1
      · exact Or.inr ⟨j,hj,by rw [gT j hj]; exact h2,by rw [gV j (by omega)]; exact h3⟩
  · intro a b hb hab
    by_cases hB : b < V.length
    · rw [gV b hB hb,gV a (by omega)]; exact h.mo a b hB hab
    · have : b = T.length:=by simp at hb; omega
      subst this
      rw [eV hb,gV a (by omega)]
      exact hm a (by omega)
  · intro k hk hi
    by_cases hI : i < V.length
    · rw [gV i hI hi]
      by_cases hK : k < V.length
      · rw [gV k hK hk]; exact h.nx k hK hI
      · have : k = T.length:=by simp at hk; omega
        subst this
        rw [eV hk]; exact hn hI
    · have hie : i = T.length:=by simp at hi; omega
      subst hie
      rw [eV hi]
      by_cases hK : k < V.length
      · rw [gV k hK hk]; exact Nat.le_succ_of_le (hm k hK)
      · have : k = T.length:=by simp at hk; omega
        subst this
        rw [eV hk]; omega
  · intro j hj hj' hji x hx
    have hjT : j < T.length:=by omega
    rw [gT j hjT hj] at hx
    obtain ⟨k,hk,hk',e,hle⟩:=h.pr j hjT (by omega) hji x hx
    refine ⟨k,by simp; omega,by simp; omega,by rw [gT k hk]; exact e,?_⟩
    rw [gV k hk',gV j (by omega)]; exact hle
  · intro k hk hk' hx
    by_cases hT : k < T.length
    · rw [gT k hT hk] at hx
      rw [gV k (by omega) hk']; exact h.rt k hT _ hx
    · have : k = T.length:=by simp at hk; omega
      subst this
      rw [eT hk] at hx
      rw [eV hk']; exact hr hx
theorem LvOk.root {req : Bm -> List Bm} {roots : List Bm} {T : By} {V : List Nat} (h : LvOk req roots T 0 V) (h1 : ∀ k (hk : k < V.length),V[k] = 1) {m : Bm} (hm : m ∈ roots) : ∃ V',LvOk req roots (comeT T m m) 0 V' /\ ∀ k (hk : k < V'.length),V'[k] = 1:=by
  cases hc : cameB T m with
  | true=>rw [come_yes hc]; exact ⟨V,h,h1⟩
  | false=>
    rw [come_no hc]
    refine ⟨V ++ [1],h.push (.root hm) (Or.inl ⟨rfl,rfl⟩) (fun k hk=>by rw [h1 k hk]; exact Nat.le_refl _) (fun hi=>by omega) (Nat.zero_le _) (fun _=>by omega) (fun _=>rfl),fun k hk=>?_⟩
    by_cases hK : k < V.length
    · rw [List.getElem_append_left hK]; exact h1 k hK
    · have : k = V.length:=by simp at hk; omega
      subst this; simp
theorem LvOk.reqs {req : Bm -> List Bm} {roots : List Bm} {T : By} {i : Nat} {V : List Nat} (h : LvOk req roots T i V) (hi : i < T.length) (hall : ∀ m,m ∈ roots -> m ∈ whoT T) {m : Bm} (hm : m ∈ req T[i].1) : ∃ V',LvOk req roots (comeT T m T[i].1) i V':=by
  have hiV : i < V.length:=by rw [h.ln]; exact hi
  cases hc : cameB T m with
  | true=>rw [come_yes hc]; exact ⟨V,h⟩
  | false=>
    rw [come_no hc]
    exact ⟨V ++ [V[i] + 1],h.push (.step (h.wn i hi hiV) hm) (Or.inr ⟨i,hi,rfl,rfl⟩) (fun k hk=>h.nx k hk hiV) (fun _=>Nat.le_refl _) (Nat.le_of_lt hi) (fun e=>by omega) (fun hr=>absurd (hall m hr) (cameB_not hc))⟩
theorem LvOk.next {req : Bm -> List Bm} {roots : List Bm} {T : By} {i : Nat} {V : List Nat} (h : LvOk req roots T i V) (hi : i < T.length) (hr : ∀ m,m ∈ req T[i].1 -> m ∈ whoT T) : LvOk req roots T (i + 1) V:=by
  have hiV : i < V.length:=by rw [h.ln]; exact hi
  refine ⟨h.ln,h.wn,h.st,h.mo,fun k hk hi1=>?_,fun j hj hj' hji m hm=>?_,h.rt⟩
  · exact Nat.le_trans (h.nx k hk hiV) (Nat.succ_le_succ (h.mo i (i + 1) hi1 (Nat.lt_succ_self i)))
  · rcases Nat.lt_or_ge j i with h1 | h1
    · exact h.pr j hj hj' h1 m hm
    · have : j = i:=by omega
      subst this
      obtain ⟨k,hk,e⟩:=whoT_mem.1 (hr m hm)
      exact ⟨k,hk,by rw [h.ln]; exact hk,e,h.nx k (by rw [h.ln]; exact hk) hiV⟩
theorem LvOk.low {req : Bm -> List Bm} {roots : List Bm} {T : By} {V : List Nat} (h : LvOk req roots T T.length V) (hall : ∀ m,m ∈ roots -> m ∈ whoT T) {n : Nat} {m : Bm} (hw : Wn req roots n m) : ∃ k,∃ hk : k < T.length,∃ hk' : k < V.length,T[k].1 = m /\ V[k] <= n:=by
  induction hw with
  | root hr=>
    obtain ⟨k,hk,rfl⟩:=whoT_mem.1 (hall _ hr)
    exact ⟨k,hk,by rw [h.ln]; exact hk,rfl,Nat.le_of_eq (h.rt k hk _ hr)⟩
  | step _ hr ih=>
    obtain ⟨j,hj,hj',rfl,hle⟩:=ih
    obtain ⟨k,hk,hk',e,hle2⟩:=h.pr j hj hj' hj _ hr
    exact ⟨k,hk,hk',e,by omega⟩
theorem LvOk.dst {req : Bm -> List Bm} {roots : List Bm} {T : By} {V : List Nat} (h : LvOk req roots T T.length V) (hnd : (whoT T).Nodup) (hall : ∀ m,m ∈ roots -> m ∈ whoT T) {k : Nat} (hk : k < T.length) (hk' : k < V.length) : Dst req roots T[k].1 V[k]:=by
  refine ⟨h.wn k hk hk',fun n hn=>?_⟩
  obtain ⟨j,hj,hj',e,hle⟩:=h.low hall hn
  have:=nd_get hnd hj hk e
  subst this
  exact hle
structure Came (req : Bm -> List Bm) (U roots : List Bm) (T : By) : Prop where
  b : Bfs req U roots T T.length
  r : ∀ m,m ∈ roots -> m ∈ whoT T
  l : ∃ V,LvOk req roots T T.length V
theorem Came.iff {req : Bm -> List Bm} {U roots : List Bm} {T : By} (h : Came req U roots T) (m : Bm) : m ∈ whoT T ↔ Rch req roots m:=by
  constructor
  · intro hm
    obtain ⟨k,hk,rfl⟩:=whoT_mem.1 hm
    exact h.b.only k k hk (Nat.le_refl _)
  · intro hm
    induction hm with
    | root hr=>exact h.r _ hr
    | step _ hr ih=>
      obtain ⟨k,hk,rfl⟩:=whoT_mem.1 ih
      exact h.b.cl k hk hk _ hr
theorem Came.cameB {req : Bm -> List Bm} {U roots : List Bm} {T : By} (h : Came req U roots T) (m : Bm) : Ve.cameB T m = true ↔ Rch req roots m:=by
  rw [cameB_iff]
  exact h.iff m
theorem Rch.mono {req : Bm -> List Bm} {r r' : List Bm} (hs : ∀ m,m ∈ r -> m ∈ r') {m : Bm} (h : Rch req r m) : Rch req r' m:=by
  induction h with
  | root hr=>exact .root (hs _ hr)
  | step _ hr ih=>exact .step ih hr
inductive Wy (req : Bm -> List Bm) (T : By) : Bm -> Nat -> List Bm -> Prop
  | start {k : Nat} (h : k < T.length) : Wy req T T[k].1 k [T[k].1]
  | next {m : Bm} {k j : Nat} {Y : List Bm} : Wy req T m k Y -> (hk : k < T.length) -> (hj : j < k) -> (T[j]'(Nat.lt_trans hj hk)).1 = T[k].2 -> T[k].1 ∈ req T[k].2 -> Wy req T m j ((T[j]'(Nat.lt_trans hj hk)).1 :: Y)
theorem Wy.lt {req : Bm -> List Bm} {T : By} {m : Bm} {k : Nat} {Y : List Bm} (h : Wy req T m k Y) : k < T.length:=by
  cases h with
  | start h=>exact h
  | next h hk hj _ _=>omega
theorem Wy.pos {req : Bm -> List Bm} {T : By} {m : Bm} {k : Nat} {Y : List Bm} (h : Wy req T m k Y) : 0 < Y.length:=by
  cases h with
  | start h=>simp
  | next h hk hj _ _=>simp
theorem Wy.head {req : Bm -> List Bm} {T : By} {m : Bm} {k : Nat} {Y : List Bm} (h : Wy req T m k Y) : Y[0]'h.pos = (T[k]'h.lt).1:=by
  cases h with
  | start h=>rfl
  | next h hk hj _ _=>rfl
theorem Wy.last {req : Bm -> List Bm} {T : By} {m : Bm} {k : Nat} {Y : List Bm} (h : Wy req T m k Y) : Y.getLast? = some m:=by
  induction h with
  | start h=>rfl
  | next h hk hj _ _ ih=>
    rw [List.getLast?_cons,ih]
    rfl
theorem Wy.far {req : Bm -> List Bm} {T : By} {m : Bm} {k : Nat} {Y : List Bm} (h : Wy req T m k Y) : ∀ y,y ∈ Y -> ∃ p,∃ hp : p < T.length,k <= p /\ T[p].1 = y:=by
  induction h with
  | start h=>intro y hy; simp at hy; exact ⟨_,h,Nat.le_refl _,hy.symm⟩
  | next h hk hj _ _ ih=>
    intro y hy
    rcases List.mem_cons.1 hy with rfl | hy
    · exact ⟨_,by omega,Nat.le_refl _,rfl⟩
    · obtain ⟨p,hp,h1,h2⟩:=ih y hy
      exact ⟨p,hp,by omega,h2⟩
theorem Wy.nd {req : Bm -> List Bm} {T : By} {m : Bm} {k : Nat} {Y : List Bm} (hn : (whoT T).Nodup) (h : Wy req T m k Y) : Y.Nodup:=by
  induction h with
  | start h=>simp
  | next h hk hj _ _ ih=>
    refine List.nodup_cons.2 ⟨fun hy=>?_,ih⟩
    obtain ⟨p,hp,h1,h2⟩:=h.far _ hy
    have:=nd_get hn hp (by omega) h2
    omega
theorem Wy.chain {req : Bm -> List Bm} {T : By} {m : Bm} {k : Nat} {Y : List Bm} (h : Wy req T m k Y) : ∀ a (ha : a + 1 < Y.length),Y[a + 1] ∈ req Y[a]:=by
  induction h with
  | start h=>intro a ha; simp at ha
  | next h hk hj h2 h3 ih=>
    intro a ha
    cases a with
    | zero=>
      simp only [List.getElem_cons_succ,List.getElem_cons_zero]
      rw [h2,h.head]
      exact h3
    | succ a=>
      simp only [List.getElem_cons_succ]
      exact ih a (by simpa using ha)
theorem LvOk.way {req : Bm -> List Bm} {roots : List Bm} {T : By} {i : Nat} {V : List Nat} (h : LvOk req roots T i V) (hnd : (whoT T).Nodup) {m : Bm} {k : Nat} {Y : List Bm} (hy : Wy req T m k Y) : ∃ t,∃ ht : t < T.length,∃ ht' : t < V.length,∃ hk' : k < V.length,T[t].1 = m /\ Y.length + V[k] = V[t] + 1:=by
  induction hy with
  | @start k hk=>exact ⟨k,hk,by rw [h.ln]; exact hk,by rw [h.ln]; exact hk,rfl,by simp; omega⟩
  | @next m k j Y hy hk hj e1 e2 ih=>
    obtain ⟨t,ht,ht',hk',e,hl⟩:=ih
    refine ⟨t,ht,ht',by omega,e,?_⟩
    rcases h.st k hk hk' with ⟨s1,s2⟩ | ⟨j',hj',s1,s2⟩
    · have:=nd_get hnd (by omega) hk (e1.trans s1.symm)
      omega
    · have:=nd_get hnd (by omega) (by omega) (s1.trans e1.symm)
      subst this
      simp
      omega
open Go.RowKit
structure Vs (w : World) (aT aB : Addr) (m : Int) : Prop where
  t : w.cell? ⟨3,0,none⟩ = some (.iface 319 (.pointer (some aT)))
  b : w.cell? ⟨4,0,none⟩ = some (.iface 319 (.pointer (some aB)))
  bt : ∃ c t,w.heap[aT.block]? = some (.cells c t (0,0))
  bb : ∃ c t,w.heap[aB.block]? = some (.cells c t (0,0))
  ne : aT ≠ aB
  ml : w.cell? ⟨11,0,none⟩ = some (.int .i64 m)
theorem lt_of_cell {w : World} {a : Addr} {v : Value} (h : w.cell? a = some v) : a.block < w.heap.size:=by
  rcases Nat.lt_or_ge a.block w.heap.size with hh | hh
  · exact hh
  · simp [World.cell?,Array.getElem?_eq_none hh] at h
theorem lt_of_blk {w : World} {b : Nat} {o : Obj} (h : w.heap[b]? = some o) : b < w.heap.size:=by
  rcases Nat.lt_or_ge b w.heap.size with hh | hh
  · exact hh
  · rw [Array.getElem?_eq_none hh] at h; cases h
theorem cell_below {w w' : World} {a : Addr} {v : Value} (hb : Below w.heap.size w w') (h : w.cell? a = some v) : w'.cell? a = some v:=by
  rw [hb.cell (lt_of_cell h)]; exact h
theorem Vs.below {w w' : World} {aT aB : Addr} {m : Int} (h : Vs w aT aB m) (hb : Below w.heap.size w w') : Vs w' aT aB m:=by
  refine ⟨cell_below hb h.t,cell_below hb h.b,?_,?_,h.ne,cell_below hb h.ml⟩
  · obtain ⟨c,t,e⟩:=h.bt
    exact ⟨c,t,by rw [hb.block _ (lt_of_blk e)]; exact e⟩
  · obtain ⟨c,t,e⟩:=h.bb
    exact ⟨c,t,by rw [hb.block _ (lt_of_blk e)]; exact e⟩
theorem below_drawn (w : World) (d : Nat) : Below w.heap.size w (w.drewN d):=⟨rfl,rfl,rfl,Nat.le_refl _,fun _ _=>rfl⟩
def errV (aT aB : Addr) (c : Nat) : Value:=if c = 0 then .nilIface else if c = 1 then .iface 319 (.pointer (some aT)) else .iface 319 (.pointer (some aB))
theorem errV0 (aT aB : Addr) : errV aT aB 0 = .nilIface:=rfl
theorem errV1 (aT aB : Addr) : errV aT aB 1 = .iface 319 (.pointer (some aT)):=rfl
theorem errV2 (aT aB : Addr) : errV aT aB 2 = .iface 319 (.pointer (some aB)):=rfl
theorem digits_any (s : ByteArray) (w : World) (hs : s.size <= maxLen) :
    Calls Tryz.prog 223 #[.string s] w fun e w'=>e = .returned (.bool (digs s.data.toList)) /\ w' = w:=by
  have HD:=hid (show digs s.data.toList = (decide (0 < s.size) && allDig s.data.toList) by unfold digs; rw [len_eq])
  have HC:=hid (every_dig s w hs)
  unfold maxLen at hs
  by_cases h : 0 < s.size
  · go_enter Tryz.func223,Tryz.ntmps223
    go_wp2_with fail
    refine HC.out.mono ?_
    rintro e w' ⟨rfl,rfl⟩
    go_wp2_with fail
    go_ret
    exact ⟨ret_bool (by rw [HD.out]; simp [h]),rfl⟩
  · go_enter Tryz.func223,Tryz.ntmps223
    go_wp2_with fail
    go_ret
    exact ⟨ret_bool (by rw [HD.out]; simp [h]),rfl⟩
def inBB (n : Int) : Bool:=decide (0 <= n /\ n <= 999999)
theorem compS : (Tryz.prog.info? 319).map (·.comparable) = some true:=by kernel_rfl
theorem sizeS : (Tryz.prog.info? 337).map (·.size) = some 1:=by kernel_rfl
theorem worse_any (a b : Nat) (aT aB : Addr) (m : Int) (w : World) (S : Vs w aT aB m) (ha : a = 0 \/ a = 1 \/ a = 2) (hb : b = 0 \/ b = 1 \/ b = 2) :
    Calls Tryz.prog 166 #[errV aT aB a,errV aT aB b] w fun e w'=>e = .returned (errV aT aB (worse a b)) /\ w' = w:=by
  obtain ⟨i,hi,hcmp⟩:=Option.map_eq_some_iff.1 compS
  obtain ⟨j,hj,hjs⟩:=Option.map_eq_some_iff.1 sizeS
  obtain ⟨c1,t1,e1⟩:=S.bt
  obtain ⟨c2,t2,e2⟩:=S.bb
  have q0:=run_eql_iface_nil_left (P:=Tryz.prog) w 319 (.pointer (some aT)) Tryz.underlying32
  have q1:=run_eql_iface_ptr_same (P:=Tryz.prog) w aT Tryz.underlying32 Tryz.underlying319 hi hcmp hj
  have q2:=run_eql_iface_ptr_other (P:=Tryz.prog) w Tryz.underlying32 Tryz.underlying319 hi hcmp hj (by rw [hjs]; decide) S.ne.symm e2 e1
  have g:=S.t
  clear S e1 e2 hi hcmp hj hjs
  rcases ha with rfl | rfl | rfl
  · rcases hb with rfl | rfl | rfl
    · show Calls Tryz.prog 166 #[.nilIface,.nilIface] w fun e w'=>e = .returned (.nilIface) /\ w' = w
      go_enter Tryz.func166,Tryz.ntmps166
      go_wp2
      go_ret
      exact ⟨rfl,rfl⟩
    · show Calls Tryz.prog 166 #[.nilIface,.iface 319 (.pointer (some aT))] w fun e w'=>e = .returned (.iface 319 (.pointer (some aT))) /\ w' = w
      go_enter Tryz.func166,Tryz.ntmps166
      go_wp2
      go_ret
      exact ⟨rfl,rfl⟩
    · show Calls Tryz.prog 166 #[.nilIface,.iface 319 (.pointer (some aB))] w fun e w'=>e = .returned (.iface 319 (.pointer (some aB))) /\ w' = w
      go_enter Tryz.func166,Tryz.ntmps166
      go_wp2
      go_ret
      exact ⟨rfl,rfl⟩
  · rcases hb with rfl | rfl | rfl
    · show Calls Tryz.prog 166 #[.iface 319 (.pointer (some aT)),.nilIface] w fun e w'=>e = .returned (.iface 319 (.pointer (some aT))) /\ w' = w
      go_enter Tryz.func166,Tryz.ntmps166
      go_wp2
      go_ret
      exact ⟨rfl,rfl⟩
    · show Calls Tryz.prog 166 #[.iface 319 (.pointer (some aT)),.iface 319 (.pointer (some aT))] w fun e w'=>e = .returned (.iface 319 (.pointer (some aT))) /\ w' = w
      go_enter Tryz.func166,Tryz.ntmps166
      go_wp2
      go_ret
      exact ⟨rfl,rfl⟩
    · show Calls Tryz.prog 166 #[.iface 319 (.pointer (some aT)),.iface 319 (.pointer (some aB))] w fun e w'=>e = .returned (.iface 319 (.pointer (some aT))) /\ w' = w
      go_enter Tryz.func166,Tryz.ntmps166
      go_wp2
      go_ret
      exact ⟨rfl,rfl⟩
  · rcases hb with rfl | rfl | rfl
    · show Calls Tryz.prog 166 #[.iface 319 (.pointer (some aB)),.nilIface] w fun e w'=>e = .returned (.iface 319 (.pointer (some aB))) /\ w' = w
      go_enter Tryz.func166,Tryz.ntmps166
      go_wp2
      go_ret
      exact ⟨rfl,rfl⟩
    · show Calls Tryz.prog 166 #[.iface 319 (.pointer (some aB)),.iface 319 (.pointer (some aT))] w fun e w'=>e = .returned (.iface 319 (.pointer (some aT))) /\ w' = w
      go_enter Tryz.func166,Tryz.ntmps166
      go_wp2
      go_ret
      exact ⟨rfl,rfl⟩
    · show Calls Tryz.prog 166 #[.iface 319 (.pointer (some aB)),.iface 319 (.pointer (some aB))] w fun e w'=>e = .returned (.iface 319 (.pointer (some aB))) /\ w' = w
      go_enter Tryz.func166,Tryz.ntmps166
      go_wp2
      go_ret
      exact ⟨rfl,rfl⟩
theorem dig_at (s : ByteArray) (h : allDig s.data.toList = true) (k : Nat) (hk : k < s.size) : 48 <= (s[k].toNat : Int) /\ (s[k].toNat : Int) <= 57:=by
  have h1:=List.all_eq_true.1 h s[k] (by rw [ByteArray.getElem_eq_getElem_data]; exact Array.getElem_mem_toList _)
  simpa [dig,digB] using h1
theorem dig_take (s : ByteArray) (h : allDig s.data.toList = true) (k : Nat) : (s.data.toList.take k).all dig = true:=by
  rw [List.all_eq_true]
  intro x hx
  exact List.all_eq_true.1 h x (List.mem_of_mem_take hx)
theorem zero_eq (s : ByteArray) : zero s.data.toList = true ↔ ∃ h : 1 < s.size,((s[0].toNat : Int) == 48) = true:=by
  unfold zero
  rw [len_eq]
  by_cases h : 1 < s.size
  · have e : s.data.toList.headD 0 = s[0]:=by
      rw [List.headD_eq_head?_getD,List.head?_eq_getElem?,List.getElem?_eq_getElem (by simp; omega)]; rfl
    rw [e]
    simp only [h,decide_true,Bool.true_and,beq_iff_eq,exists_true_left]
    constructor
    · intro h; rw [h]; rfl
    · intro h
      apply UInt8.toNat_inj.1
      show s[0].toNat = 48
      omega
  · simp [h]
set_option maxHeartbeats 400000 in
theorem numeral_any (s : ByteArray) (w : World) (hs : s.size <= maxLen) :
    Calls Tryz.prog 236 #[.string s] w fun e w'=>e = .returned (.bool (digs s.data.toList && !zero s.data.toList)) /\ w' = w:=by
  have HC:=hid (digits_any s w hs)
  have HZ:=hid (zero_eq s)
  have HS : Hid (digs s.data.toList = true -> 0 < s.size):=fun h=>by unfold digs at h; rw [len_eq] at h; simp at h; omega
  unfold maxLen at hs
  cases hz : digs s.data.toList
  · rw [hz] at HC
    clear hz
    go_enter Tryz.func236,Tryz.ntmps236
    go_wp2_with fail
    refine HC.out.mono ?_
    rintro e w' ⟨rfl,rfl⟩
    go_wp2_with fail
    go_ret
    exact ⟨ret_bool (by simp),rfl⟩
  · have h0:=HS.out hz
    rw [hz] at HC
    clear hz HS
    by_cases h1 : 1 < s.size
    · have hl : ((s.size : Int) == 1) = false:=by rw [beq_eq_false_iff_ne]; omega
      cases h2 : ((s[0].toNat : Int) == 48)
      · have h3 : ((s[0].toNat : Int) != 48) = true:=by rw [bne,h2]; rfl
        have hq : zero s.data.toList = false:=by
          cases hq : zero s.data.toList
          · rfl
          · obtain ⟨_,h⟩:=HZ.out.1 hq
            rw [h2] at h; cases h
        have HQ:=hid hq
        clear hq HZ
        go_enter Tryz.func236,Tryz.ntmps236
        go_wp2_with fail
        refine HC.out.mono ?_
        rintro e w' ⟨rfl,rfl⟩
        go_wp2_with fail
        go_ret
        exact ⟨ret_bool (by rw [HQ.out]; rfl),rfl⟩
      · have h3 : ((s[0].toNat : Int) != 48) = false:=by rw [bne,h2]; rfl
        have HQ:=hid (HZ.out.2 ⟨h1,h2⟩)
        clear HZ
        go_enter Tryz.func236,Tryz.ntmps236
        go_wp2_with fail
        refine HC.out.mono ?_
        rintro e w' ⟨rfl,rfl⟩
        go_wp2_with fail
        go_ret
        exact ⟨ret_bool (by rw [HQ.out]; rfl),rfl⟩
    · have hl : ((s.size : Int) == 1) = true:=by rw [beq_iff_eq]; omega
      have hq : zero s.data.toList = false:=by
        cases hq : zero s.data.toList
        · rfl
        · obtain ⟨h,_⟩:=HZ.out.1 hq
          exact absurd h h1
      have HQ:=hid hq
      clear hq HZ
      go_enter Tryz.func236,Tryz.ntmps236
      go_wp2_with fail
      refine HC.out.mono ?_
      rintro e w' ⟨rfl,rfl⟩
      go_wp2_with fail
      go_ret
      exact ⟨ret_bool (by rw [HQ.out]; rfl),rfl⟩
set_option maxHeartbeats 400000 in
theorem num_text (s : ByteArray) (aT aB : Addr) (m : Int) (w : World) (hs : s.size <= maxLen) (S : Vs w aT aB m) (hz : (digs s.data.toList && !zero s.data.toList) = false) :
    Calls Tryz.prog 205 #[.string s] w fun e w'=>e = .returned (.tuple #[.int .i64 0,.iface 319 (.pointer (some aT))]) /\ Below w.heap.size w w':=by
  have HC:=hid (numeral_any s w hs)
  rw [hz] at HC
  unfold maxLen at hs
  have g:=S.t
  clear S hz
  go_enter Tryz.func205,Tryz.ntmps205
  go_wp2_with fail
  refine HC.out.mono ?_
  rintro e w' ⟨rfl,rfl⟩
  go_wp2_with fail
  go_quiet (fail)
  go_wp2_with fail
  go_ret2
  exact ⟨rfl,below_drawn _ _⟩
set_option maxHeartbeats 1000000 in
theorem num_ok (s : ByteArray) (aT aB : Addr) (m : Int) (w : World) (hs : s.size <= maxLen) (S : Vs w aT aB m) (hz : digs s.data.toList = true) (h0 : zero s.data.toList = false) :
    Calls Tryz.prog 205 #[.string s] w fun e w'=>e = .returned (.tuple #[.int .i64 (num s.data.toList).1,errV aT aB (num s.data.toList).2]) /\ Below w.heap.size w w':=by
  have had : allDig s.data.toList = true:=by unfold digs at hz; simp at hz; exact hz.2
  have HN : Hid ((numTo 0 s.data.toList <= 999999 -> num s.data.toList = (numTo 0 s.data.toList,0)) /\ (¬ numTo 0 s.data.toList <= 999999 -> num s.data.toList = (0,2))):=
    ⟨fun h=>by simp [num,hz,h0,h],fun h=>by simp [num,hz,h0,h]⟩
  have HC:=hid (numeral_any s w hs)
  rw [hz,h0] at HC
  unfold maxLen at hs
  have g:=S.b
  clear S h0 hz
  go_enter Tryz.func205,Tryz.ntmps205
  go_wp2_with fail
  refine HC.out.mono ?_
  rintro e w' ⟨rfl,rfl⟩
  go_wp2_with fail
  go_loop [4,12] (fun n i=>∃ k : Nat,k <= s.size /\ i = .int .i64 k /\ n = .int .i64 (numTo 0 (s.data.toList.take k))) (fun _ i=>s.size - (intOf i).toNat)
  case atStart=>exact ⟨0,Nat.zero_le _,rfl,rfl⟩
  case round=>
    obtain ⟨k,hk,rfl,rfl⟩:=hrel
    obtain ⟨b0,b1⟩:=numTo_bd _ (dig_take s had k)
    by_cases hlt : k < s.size
    · obtain ⟨d0,d1⟩:=dig_at s had k hlt
      have HS:=hid (numTo_snoc 0 (s.data.toList.take k) s[k])
      rw [<- take_snoc s k hlt] at HS
      generalize hn : numTo 0 (s.data.toList.take k) = n at *
      clear hn
      go_wp2_with fail
      refine ⟨⟨k + 1,by omega,by go_num,?_⟩,by simp [intOf]; omega⟩
      rw [HS.out]
      first | done | (congr 1; split <;> omega) | (congr 1; omega)
    · have hk2 : s.data.toList.take k = s.data.toList:=List.take_of_length_le (by simp; omega)
      rw [hk2] at b0 b1 ⊢
      by_cases hb : numTo 0 s.data.toList <= 999999
      · have HF:=hid (HN.out.1 hb)
        generalize hn : numTo 0 s.data.toList = n at *
        clear hn hk2
        go_wp2_with fail
        go_ret2
        exact ⟨by rw [HF.out]; rfl,Below.refl _ _⟩
      · have HF:=hid (HN.out.2 (by omega))
        generalize hn : numTo 0 s.data.toList = n at *
        clear hn hk2
        go_wp2_with fail
        go_quiet (fail)
        go_wp2_with fail
        go_ret2
        exact ⟨by rw [HF.out]; rfl,below_drawn _ _⟩
theorem num_any (s : ByteArray) (aT aB : Addr) (m : Int) (w : World) (hs : s.size <= maxLen) (S : Vs w aT aB m) :
    Calls Tryz.prog 205 #[.string s] w fun e w'=>e = .returned (.tuple #[.int .i64 (num s.data.toList).1,errV aT aB (num s.data.toList).2]) /\ Below w.heap.size w w':=by
  cases hz : digs s.data.toList
  · have e : num s.data.toList = (0,1):=by simp [num,hz]
    rw [e]; exact num_text s aT aB m w hs S (by rw [hz]; rfl)
  · cases h0 : zero s.data.toList
    · exact num_ok s aT aB m w hs S hz h0
    · have e : num s.data.toList = (0,1):=by simp [num,h0]
      rw [e]; exact num_text s aT aB m w hs S (by rw [hz,h0]; rfl)
set_option maxHeartbeats 400000 in
theorem part_any (s : ByteArray) (aT aB : Addr) (m : Int) (w : World) (hs : s.size <= maxLen) (S : Vs w aT aB m) :
    Calls Tryz.prog 207 #[.string s] w fun e w'=>e = .returned (errV aT aB (part s.data.toList)) /\ Below w.heap.size w w':=by
  have HP:=hid (show part s.data.toList = if s.size < 1 \/ 8 < s.size \/ allPar s.data.toList = false then 1 else if digs s.data.toList = false then 0 else (num s.data.toList).2 by unfold part; rw [len_eq])
  have HS:=hid S
  have HE:=hid (every_par s w hs)
  have HD:=hid (digits_any s w hs)
  have HN:=hid (num_any s aT aB m w hs S)
  have HR:=hid (num_err s.data.toList)
  unfold maxLen at hs
  have g:=S.t
  clear S
  by_cases h1 : s.size < 1
  · rw [if_pos (Or.inl h1)] at HP
    go_enter Tryz.func207,Tryz.ntmps207
    go_wp2_with fail
    go_ret
    exact ⟨by rw [HP.out]; rfl,Below.refl _ _⟩
  · by_cases h2 : 8 < s.size
    · rw [if_pos (Or.inr (Or.inl h2))] at HP
      go_enter Tryz.func207,Tryz.ntmps207
      go_wp2_with fail
      go_ret
      exact ⟨by rw [HP.out]; rfl,Below.refl _ _⟩
    · cases h3 : allPar s.data.toList
      · rw [if_pos (Or.inr (Or.inr h3))] at HP
        rw [h3] at HE
        clear h3
        go_enter Tryz.func207,Tryz.ntmps207
        go_wp2_with fail
        refine HE.out.mono ?_
        rintro e w' ⟨rfl,rfl⟩
        go_wp2_with fail
        go_ret
        exact ⟨by rw [HP.out]; rfl,Below.refl _ _⟩
      · rw [h3] at HE
        rw [if_neg (by rintro (h | h | h) <;> simp_all)] at HP
        clear h3
        cases h4 : digs s.data.toList
        · rw [if_pos h4] at HP
          rw [h4] at HD
          clear h4
          go_enter Tryz.func207,Tryz.ntmps207
          go_wp2_with fail
          refine HE.out.mono ?_
          rintro e w' ⟨rfl,rfl⟩
          go_wp2_with fail
          refine HD.out.mono ?_
          rintro e w' ⟨rfl,rfl⟩
          go_wp2_with fail
          go_ret
          exact ⟨by rw [HP.out]; rfl,Below.refl _ _⟩
        · rw [if_neg (by rw [h4]; simp)] at HP
          rw [h4] at HD
          clear h4
          generalize hq : num s.data.toList = q at *
          clear hq
          obtain ⟨q1,q2⟩:=q
          rcases HR.out with h | h | h
          all_goals
            dsimp only at h
            subst h
            go_enter Tryz.func207,Tryz.ntmps207
            go_wp2_with fail
            refine HE.out.mono ?_
            rintro e w' ⟨rfl,rfl⟩
            go_wp2_with fail
            refine HD.out.mono ?_
            rintro e w' ⟨rfl,rfl⟩
            go_wp2_with fail
            refine HN.out.mono ?_
            rintro e w' ⟨rfl,hb⟩
            have HB:=hid hb
            clear hb
            go_wp2_with fail
            go_ret
            exact ⟨by rw [HP.out]; rfl,HB.out⟩
end Ve
end Go.Proofs.YtlcffhadobhfkaaGreatDoor
