/-
  BwA GtA RtA GrH FoA GrI RmA MtP GtC MsT
-/
import Derived.Test.YtlcffhadobhfkaaGreatDoorMq2
import Derived.Test.YtlcffhadobhfkaaGreatDoorMq6
import Derived.Test.YtlcffhadobhfkaaGreatDoorMq11
import Derived.Test.YtlcffhadobhfkaaGreatDoorMq9
import Derived.Test.YtlcffhadobhfkaaGreatDoorMq20
import Derived.Test.YtlcffhadobhfkaaGreatDoorMq22
import Derived.Test.YtlcffhadobhfkaaGreatDoorMq37
import Derived.Test.YtlcffhadobhfkaaGreatDoorMq18
import Derived.Test.YtlcffhadobhfkaaGreatDoorMq34
import Derived.Test.YtlcffhadobhfkaaGreatDoorMq45
import Derived.Test.YtlcffhadobhfkaaGreatDoorMq3
import Derived.Test.YtlcffhadobhfkaaGreatDoorMq19
import Derived.Test.YtlcffhadobhfkaaGreatDoorMq16
namespace Go.Proofs.YtlcffhadobhfkaaGreatDoor
open Go.RowKit Go.Maps
namespace Ve
def bwc (O : List Bool) : Array Value:=(O.map Value.bool).toArray
structure Mk (req : Bm -> List Bm) (U roots : List Bm) (O : List Bool) : Prop where
  ln : O.length = U.length
  so : ∀ i (h : i < U.length) (h' : i < O.length),O[i] = true -> Rch req roots U[i]
theorem Mk.none (req : Bm -> List Bm) (U roots : List Bm) : Mk req U roots (List.replicate U.length false):=
  ⟨by simp,fun i h h' e=>by rw [List.getElem_replicate] at e; cases e⟩
theorem Mk.set {req : Bm -> List Bm} {U roots : List Bm} {O : List Bool} (h : Mk req U roots O) {a : Nat} (ha : a < U.length) (hr : Rch req roots U[a]) : Mk req U roots (O.set a true):=by
  refine ⟨by rw [List.length_set]; exact h.ln,fun i hi hi' e=>?_⟩
  by_cases hia : a = i
  · subst hia; exact hr
  · rw [List.getElem_set_ne hia] at e
    exact h.so i hi (by rw [h.ln]; exact hi) e
def At1 (U : List Bm) (O : List Bool) (m : Bm) : Prop:=∃ a,∃ h : a < U.length,∃ h' : a < O.length,U[a] = m /\ O[a] = true
theorem At1.set {U : List Bm} {O : List Bool} {m : Bm} (h : At1 U O m) (a : Nat) : At1 U (O.set a true) m:=by
  obtain ⟨k,hk,hk',e1,e2⟩:=h
  refine ⟨k,hk,by rw [List.length_set]; exact hk',e1,?_⟩
  by_cases hka : a = k
  · subst hka; rw [List.getElem_set_self]
  · rw [List.getElem_set_ne hka]; exact e2
structure Fr (req : Bm -> List Bm) (U roots : List Bm) (n i : Nat) (F : List Nat) : Prop where
  ln : F.length = U.length
  so : ∀ j (h : j < U.length) (h' : j < F.length),F[j] ≠ 0 -> Wn req roots F[j] U[j]
  bd : ∀ j (h' : j < F.length),F[j] <= n + 1
  lo : ∀ d j (h : j < U.length) (h' : j < F.length),d <= n -> Wn req roots d U[j] -> F[j] ≠ 0 /\ F[j] <= d
  dn : ∀ j (h : j < U.length) (h' : j < F.length),j < i -> F[j] = n -> ∀ m,m ∈ req U[j] -> ∃ a,∃ h : a < U.length,∃ h' : a < F.length,U[a] = m /\ F[a] ≠ 0
theorem Fr.none (req : Bm -> List Bm) (U roots : List Bm) : Fr req U roots 0 0 (List.replicate U.length 0):=
  ⟨by simp,fun j _ _ e=>by rw [List.getElem_replicate] at e; exact absurd rfl e,fun j _=>by rw [List.getElem_replicate]; omega,fun d j _ _ hd hw=>absurd hw.pos (by omega),fun _ _ _ h=>absurd h (Nat.not_lt_zero _)⟩
theorem Fr.set {req : Bm -> List Bm} {U roots : List Bm} {n i : Nat} {F : List Nat} (h : Fr req U roots n i F) {a : Nat} (ha : a < U.length) (ha' : a < F.length) (e0 : F[a] = 0) (hw : Wn req roots (n + 1) U[a]) : Fr req U roots n i (F.set a (n + 1)):=by
  refine ⟨by rw [List.length_set]; exact h.ln,fun j hj hj' e=>?_,fun j hj'=>?_,fun d j hj hj' hd hwn=>?_,fun j hj hj' hji e m hm=>?_⟩
  · by_cases hja : a = j
    · subst hja; rw [List.getElem_set_self]; exact hw
    · rw [List.getElem_set_ne hja] at e ⊢
      exact h.so j hj _ e
  · by_cases hja : a = j
    · subst hja; rw [List.getElem_set_self]; exact Nat.le_refl _
    · rw [List.getElem_set_ne hja]; exact h.bd j _
  · have h1:=h.lo d j hj (by rw [h.ln]; exact hj) hd hwn
    by_cases hja : a = j
    · subst hja; exact absurd e0 h1.1
    · rw [List.getElem_set_ne hja]; exact h1
  · have hja : a ≠ j:=fun hja=>by subst hja; rw [List.getElem_set_self] at e; omega
    rw [List.getElem_set_ne hja] at e
    obtain ⟨t,ht,ht',e1,e2⟩:=h.dn j hj (by rw [h.ln]; exact hj) hji e m hm
    refine ⟨t,ht,by rw [List.length_set]; exact ht',e1,?_⟩
    have hta : a ≠ t:=fun hta=>by subst hta; exact e2 e0
    rw [List.getElem_set_ne hta]; exact e2
theorem Fr.root {req : Bm -> List Bm} {U roots : List Bm} {F : List Nat} (h : Fr req U roots 0 0 F) {a : Nat} (ha : a < U.length) (hr : U[a] ∈ roots) : Fr req U roots 0 0 (F.set a 1):=by
  have ha' : a < F.length:=by rw [h.ln]; exact ha
  by_cases e0 : F[a] = 0
  · exact h.set ha ha' e0 (.root hr)
  · have e1 : F[a] = 1:=by have:=h.bd a ha'; omega
    have : F.set a 1 = F:=by rw [<- e1]; exact List.set_getElem_self ha'
    rw [this]; exact h
theorem Fr.first {req : Bm -> List Bm} {U roots : List Bm} {F : List Nat} (h : Fr req U roots 0 0 F) (hr : ∀ j (_ : j < U.length) (h' : j < F.length),U[j] ∈ roots -> F[j] ≠ 0) : Fr req U roots 1 0 F:=by
  refine ⟨h.ln,h.so,fun j hj=>Nat.le_succ_of_le (h.bd j hj),fun d j hj hj' hd hw=>?_,fun _ _ _ hh=>absurd hh (Nat.not_lt_zero _)⟩
  have hb:=h.bd j hj'
  have hp:=hw.pos
  have : d = 1:=by omega
  subst this
  cases hw with
  | root hm=>exact ⟨hr j hj hj' hm,hb⟩
  | step hq _=>exact absurd hq.pos (by omega)
theorem TxAt.cells {W : World} {a : Option Addr} {n c : Nat} {X : List ByteArray} (h : TxAt W (.slice a n c) X) {k : Nat} (hk : k < X.length) : ∃ b o,a = some ⟨b,o,none⟩ /\ ∀ j (h : j < X.length),W.cell? ⟨b,o + j,none⟩ = some (.string X[j]):=by
  obtain ⟨a',c',e,_,h⟩:=h
  injection e with e1 e2 e3
  subst e1
  exact h (by intro h0; rw [h0] at hk; simp at hk)
def lenOf : Value -> Nat
  | .slice _ n _=>n
  | _=>0
theorem eqM_iff {x m : Bm} : eqM x m = true ↔ x = m:=by
  unfold eqM
  rw [decide_eq_true_iff]
  exact ⟨fun h=>Prod.ext h.1 h.2,fun h=>by rw [h]; exact ⟨rfl,rfl⟩⟩
theorem sm_chkG (g : Nat) : (chkG (smQ g) smL [ma1]).1 = 0:=by
  rw [chkG_ok (by rw [sm_chk])]
  show codeE (nonE (smQ g) [ma1]) 1 = 0
  kernel_rfl
theorem sm_rch {g : Nat} {m : Bm} (h : Rch (reqQ (smQ g) smL) [ma1] m) : m = ma1 \/ m = mb0:=by
  induction h with
  | root hr=>simp at hr; exact Or.inl hr
  | step _ hr ih=>
    rcases ih with rfl | rfl
    · rw [sm_r1] at hr; simp at hr; exact Or.inr hr
    · rw [sm_rb] at hr; simp at hr
structure Mks (w W : World) (Q : List Raw) (L : List Ent) (roots : List Bm) (O : List Bool) : Prop where
  bl : Below w.heap.size w W
  hp : W.heap[w.heap.size]? = some (.cells (bwc O) 4 (0,0))
  ok : Mk (reqQ Q L) (univ L) roots O
theorem Mks.below {w W W' : World} {Q : List Raw} {L : List Ent} {roots : List Bm} {O : List Bool} (h : Mks w W Q L roots O) (hb : Below W.heap.size W W') : Mks w W' Q L roots O:=
  ⟨h.bl.trans (hb.mono h.bl.size),(hb.block _ (lt_of_blk h.hp)).trans h.hp,h.ok⟩
theorem ms_atJ {W : World} {b o n c : Nat} {X : List Bm} (h : MsAt W (.slice (some ⟨b,o,none⟩) n c) X) {k : Nat} (hk : k < X.length) : W.cell? ⟨b,o + k * 2,none⟩ = some (.string X[k].1) /\ W.cell? ⟨b,o + k * 2 + 1,none⟩ = some (.string X[k].2):=by
  obtain ⟨b',o',e,h1⟩:=h.cells hk
  injection e with e
  injection e with e1 e2
  subst e1 e2
  exact h1
def iwc (F : List Nat) : Array Value:=(F.map fun n : Nat=>Value.int .i64 (n : Int)).toArray
structure Fas (w W : World) (g : Nat) (Q : List Raw) (L : List Ent) (roots : List Bm) (n i : Nat) (F : List Nat) : Prop where
  gg : w.heap.size = g
  bl : Below w.heap.size w W
  hp : W.heap[g]? = some (.cells (iwc F) 3 (0,0))
  ok : Fr (reqQ Q L) (univ L) roots n i F
theorem Fas.below {w W W' : World} {g : Nat} {Q : List Raw} {L : List Ent} {roots : List Bm} {n i : Nat} {F : List Nat} (h : Fas w W g Q L roots n i F) (hb : Below W.heap.size W W') : Fas w W' g Q L roots n i F:=
  ⟨h.gg,h.bl.trans (hb.mono h.bl.size),(hb.block _ (lt_of_blk h.hp)).trans h.hp,h.ok⟩
def AtF (U : List Bm) (F : List Nat) (m : Bm) : Prop:=∃ a,∃ h : a < U.length,∃ h' : a < F.length,U[a] = m /\ F[a] ≠ 0
theorem AtF.at {U : List Bm} {F : List Nat} (hN : U.Nodup) {j : Nat} (hj : j < U.length) (hj' : j < F.length) (h : AtF U F U[j]) : F[j] ≠ 0:=by
  obtain ⟨k,hk,hk',e1,e2⟩:=h
  have hp:=List.pairwise_iff_getElem.1 hN
  have : k = j:=by
    rcases Nat.lt_trichotomy k j with h1 | h1 | h1
    · exact absurd e1 (hp k j hk hj h1)
    · exact h1
    · exact absurd e1.symm (hp j k hj hk h1)
  subst this
  exact e2
theorem MsAt.cap {w : World} {a : Option Addr} {n c : Nat} {L : List Bm} (h : MsAt w (.slice a n c) L) : L.length <= c:=by
  obtain ⟨a',c',e,h1,_⟩:=h
  injection e with _ _ e3
  subst e3; exact h1
theorem ms_take {w : World} {a : Addr} {c : Nat} {L : List Bm} (h : MsAt w (.slice (some a) L.length c) L) {k : Nat} (hk : k <= L.length) : MsAt w (.slice (some a) k c) (L.take k):=by
  have hl : (L.take k).length = k:=by simp; omega
  refine ⟨some a,c,by rw [hl],by have:=h.cap; omega,fun hn=>?_⟩
  have h0 : 0 < L.length:=by
    cases L with
    | nil=>simp at hn
    | cons x r=>simp
  obtain ⟨b,o,e,_⟩:=h.cells h0
  injection e with e
  subst e
  exact ⟨b,o,rfl,fun j hj=>by
    rw [List.getElem_take]
    exact ms_atJ h (by omega)⟩
theorem ms_drop {w : World} {b o c : Nat} {L : List Bm} (h : MsAt w (.slice (some ⟨b,o,none⟩) L.length c) L) (k c' : Nat) (hc : L.length - k <= c') : MsAt w (.slice (some ⟨b,o + k * 2,none⟩) (L.length - k) c') (L.drop k):=by
  have hl : (L.drop k).length = L.length - k:=by simp
  refine ⟨_,c',by rw [hl],by rw [hl]; exact hc,fun hn=>⟨b,o + k * 2,rfl,fun j hj=>?_⟩⟩
  rw [List.getElem_drop]
  have:=ms_atJ h (k:=k + j) (by omega)
  rw [show o + k * 2 + j * 2 = o + (k + j) * 2 by omega]
  exact this
theorem em_ad (a : Addr) (n c : Nat) (D : List Bm) : Em (.slice (some a) n c) D:=fun a' c' e _=>by
  injection e with e1 e2 e3
  subst e1 e3
  exact Or.inr ⟨a,rfl⟩
end Ve
end Go.Proofs.YtlcffhadobhfkaaGreatDoor
