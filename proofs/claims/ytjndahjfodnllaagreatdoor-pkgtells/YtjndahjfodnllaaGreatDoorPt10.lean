
import Derived.Test.YtjndahjfodnllaaGreatDoorPt9
import Derived.Test.YtjndahjfodnllaaGreatDoorCode
import Derived.Test.YtjndahjfodnllaaGreatDoorTe
import Derived.Test.YtjndahjfodnllaaGreatDoorPt8
import Derived.Test.YtjndahjfodnllaaGreatDoorPt1
import Derived.Test.YtjndahjfodnllaaGreatDoorPt4
import Derived.Test.YtjndahjfodnllaaGreatDoorPt6
import Derived.Deep.SlicePairs
import Derived.Lib.SmallJoins
import Derived.SliceStrings
import Derived.ProofKit
import Derived.LaidMore
import Derived.Lay
import Derived.Stop.Joined
import Derived.HandedShaped
import Derived.LaidLaws
import Derived.Below
import Derived.Test.YtjndahjfodnllaaGreatDoorRows
import Derived.Test.YtjndahjfodnllaaGreatDoorVerG
import Derived.LaidHandle
import Derived.Stop.LaidTwo
import Derived.Shelf.Vars
import Derived.Carry
namespace Go.Proofs.YtjndahjfodnllaaGreatDoor
open Go.RowKit Go.Maps
namespace Ve
theorem rwh_any (Q : List Raw) (L : List Ent) (p : ByteArray) (v : Value) (w : World) (hn : L.length ≤ 1000) (sh : ∀ e, e ∈ L → ShE e) (hz : shQ Q) (I : Ixs w v Q L) :
    Calls Tryz.prog 21 #[v, .string p] w fun e w' => ∃ u, e = .returned (.tuple #[u, faultV (chk Q L)]) ∧ MsAt w' u (whX Q L p) ∧ Below w.heap.size w w' := by
  by_cases hc : (chk Q L).1 = 0
  · have hc0 := chk_fine hc
    have e2 : whX Q L p = whD Q L p (phX Q) 100 := by unfold whX; rw [if_pos hc]
    rw [e2, hc0]
    exact rwh_good Q L p v w hn sh hz I hc0
  · have e2 : whX Q L p = [] := by unfold whX; rw [if_neg hc]
    rw [e2]
    exact (rwh_chk Q L p v w hn sh I hc).mono fun _ w' ⟨h1, h2⟩ => ⟨_, h1, ⟨none, 0, rfl, Nat.le_refl _, fun h => absurd rfl h⟩, h2⟩
def bAX : ByteArray := ⟨#[97, 47, 120]⟩
theorem s3_slF (g : Nat) : slF (s3Q g) [qa0] = (0, none) := Prod.ext (show codeE (nonE (s3Q g) [qa0]) 1 = 0 by kernel_rfl) (show fstE (nonE (s3Q g) [qa0]) 1 = none by kernel_rfl)
theorem s3_bst (g : Nat) : bstN (s3Q g) s3L bAX [qa0] 1 = qa0 := by kernel_rfl
theorem s3_path : pathErr bAX.data.toList = 0 := by kernel_rfl
theorem s3_ofF (g : Nat) : ofF (s3Q g) s3L [qa0] bAX = (0, none) := by
  unfold ofF
  rw [s3_chk, if_neg (by simp), s3_path, if_neg (by simp), s3_slF, if_neg (by simp)]
  show (if (bstN (s3Q g) s3L bAX [qa0] 1).1.size = 0 then (5, none) else (0, none)) = ((0, none) : Nat × Option Nat)
  rw [s3_bst, if_neg (by decide)]
theorem s3_ofM (g : Nat) : ofM (s3Q g) s3L [qa0] bAX = qa0 := by
  unfold ofM
  rw [s3_ofF, if_pos rfl]
  exact s3_bst g
theorem s3_shQ (g : Nat) : shQ (s3Q g) := fun r hr => by
  have : r.1 = qa0 ∨ r.1 = qa1 ∨ r.1 = qb0 ∨ r.1 = qb1 := by
    have h := List.mem_map_of_mem (f := fun r : Raw => r.1) hr
    simpa [s3Q] using h
  rcases this with h | h | h | h <;> rw [h] <;> exact ⟨by decide, by decide⟩
end Ve
end Go.Proofs.YtjndahjfodnllaaGreatDoor


namespace Go.Proofs.YtjndahjfodnllaaGreatDoor
open Go.RowKit
namespace Ve
end Ve
end Go.Proofs.YtjndahjfodnllaaGreatDoor


namespace Go.Proofs.YtjndahjfodnllaaGreatDoor
open Go.RowKit Go.Maps
namespace Ve
set_option maxHeartbeats 1000000 in
theorem faulted3_any (A : Nat → Addr) (x : Value) (r : Nat × Option Nat) (w : World) (S : Er.Sen w A) (h : ErrAt w A x r.1 r.2) (hc : r.1 ≤ 10) :
    Calls Tryz.prog 17 #[x, faultV r] w fun e w' => e = .returned (.bool true) ∧ Below w.heap.size w w' := by
  obtain ⟨c, o⟩ := r
  have HB0 := hid ((Below.refl w.heap.size w).alloc (Nat.le_refl _) (.cells #[.int .i64 (c : Nat), .int .i64 (atOf o)] 44))
  have HC := hid (code_at2 A x c o _ (S.below HB0.out) (h.below HB0.out) hc)
  unfold faultV
  simp only
  generalize atOf o = y at *
  generalize (c : Int) = z at *
  have e1 : (z == z) = true := beq_self_eq_true z
  have e2 : (y == y) = true := beq_self_eq_true y
  clear S h hc
  go_enter Tryz.func17, Tryz.ntmps17
  go_wp2_with fail
  refine HC.out.mono ?_
  rintro e w1 ⟨rfl, hb⟩
  obtain ⟨⟨r0, r1⟩, rz⟩ := res2 (hb.mono (by simp))
  have HB := hid (HB0.out.trans (hb.mono HB0.out.size))
  clear hb
  cases hz : (z == 0)
  all_goals
    go_wp2_with fail
    go_ret
    exact ⟨rfl, HB.out⟩
end Ve
end Go.Proofs.YtjndahjfodnllaaGreatDoor


namespace Go.Proofs.YtjndahjfodnllaaGreatDoor
open Go.RowKit Go.Maps
namespace Ve
set_option maxRecDepth 100000 in
set_option maxHeartbeats 2000000 in
theorem packed_any {T : World → Prop} (OC : OfC T) (KT : StayK T) (A : Nat → Addr) (m : Int) (w : World) (S : Te w A m) (hT : T w) :
    Calls Tryz.prog 6 #[] w fun e w' => e = .returned (.bool true) ∧ Below w.heap.size w w' := by
  have HSM := hid (fun W => small3_any W)
  have HS := hid (fun W (h : Below w.heap.size w W) => S.below h)
  have HT := hid (fun W (h : Below w.heap.size w W) => KT w W hT h)
  have HOC := hid OC
  clear S OC KT hT
  go_enter Tryz.func6, Tryz.ntmps6
  go_wp2_with fail
  refine (HSM.out w).mono ?_
  rintro e w1 ⟨g, q, rfl, hix, hb⟩
  have HB1 := hid hb
  have HIX := hid hix
  clear hb hix
  have HB2 := hid (HB1.out.alloc HB1.out.size (.cells #[.string ⟨#[97]⟩, .string ⟨#[118, 49, 46, 48, 46, 48]⟩] 38))
  have HN2 := hid ((Below.refl w1.heap.size w1).alloc (Nat.le_refl _) (.cells #[.string ⟨#[97]⟩, .string ⟨#[118, 49, 46, 48, 46, 48]⟩] 38))
  have HMS := hid (show MsAt (w1.alloc (.cells #[.string ⟨#[97]⟩, .string ⟨#[118, 49, 46, 48, 46, 48]⟩] 38)) (.slice (some ⟨w1.heap.size, 0, none⟩) 1 1) [qa0] from
    ⟨some ⟨w1.heap.size, 0, none⟩, 1, rfl, Nat.le_refl _, fun _ => ⟨w1.heap.size, 0, rfl, fun j hj => by
      have : j = 0 := by simp at hj; omega
      subst this
      exact ⟨by simp; rfl, by simp; rfl⟩⟩⟩)
  have HO := hid (HOC.out (s3Q g) s3L [qa0] bAX _ _ A m _ (by decide) s3_sh (s3_shQ g) (by decide) (Nat.le_trans (hv_all _ _ _ _) (by decide)) (by decide) (HS.out _ HB2.out) (HT.out _ HB2.out) (HIX.out.below HN2.out) HMS.out)
  rw [s3_ofM, s3_ofF] at HO
  go_wp2_with fail
  refine HO.out.mono ?_
  rintro e w2 ⟨x, rfl, hx, hb⟩
  have HB3 := hid (HB2.out.trans (hb.mono HB2.out.size))
  rcases hx.kind with ⟨-, rfl⟩ | ⟨h0, -⟩
  · clear hb hx
    have hq : (qa0.2.toList == [118, 49, 46, 48, 46, 48]) = true := by rw [ByteArray.toList_eq]; rfl
    go_wp2_with fail
    go_ret
    exact ⟨rfl, HB3.out.alloc HB3.out.size _⟩
  · exact absurd rfl h0
theorem ints_no {c d : Int} {k : Nat} {s : ByteArray} (h : (#[Value.int .i64 c, .int .i64 d] : Array Value)[k]? = some (.string s)) : False := by
  match k, h with
  | 0, h => simp at h
  | 1, h => simp at h
  | k + 2, h => simp at h
theorem cell_set_neP {W : World} {b o g p : Nat} {x v : Value} (h : W.cell? ⟨b, o, none⟩ = some v) (hne : b ≠ g) : (W.setCell ⟨g, p, none⟩ x).cell? ⟨b, o, none⟩ = some v := by
  unfold World.cell? at h ⊢
  rw [Below.heap_setCell _ _ _ _ hne]
  exact h
theorem TxAt.set2 {W : World} {v : Value} {X : List ByteArray} {g : Nat} {c d : Int} {T : TypeId} (h : TxAt W v X) (hg : W.heap[g]? = some (.cells #[.int .i64 c, .int .i64 d] T (0, 0))) (a b : Value) : TxAt ((W.setCell ⟨g, 0, none⟩ a).setCell ⟨g, 1, none⟩ b) v X := by
  obtain ⟨a', c', e, hc, h⟩ := h
  refine ⟨a', c', e, hc, fun hL => ?_⟩
  obtain ⟨bk, o, e2, h2⟩ := h hL
  refine ⟨bk, o, e2, fun j hj => ?_⟩
  have hne : bk ≠ g := fun e => by
    subst e
    have h3 := h2 j hj
    rw [Lib.cell_of_heap hg] at h3
    exact ints_no h3
  exact cell_set_neP (cell_set_neP (h2 j hj) hne) hne
theorem MsAt.set2 {W : World} {v : Value} {X : List Bm} {g : Nat} {c d : Int} {T : TypeId} (h : MsAt W v X) (hg : W.heap[g]? = some (.cells #[.int .i64 c, .int .i64 d] T (0, 0))) (a b : Value) : MsAt ((W.setCell ⟨g, 0, none⟩ a).setCell ⟨g, 1, none⟩ b) v X := by
  obtain ⟨a', c', e, hc, h⟩ := h
  refine ⟨a', c', e, hc, fun hL => ?_⟩
  obtain ⟨bk, o, e2, h2⟩ := h hL
  refine ⟨bk, o, e2, fun j hj => ?_⟩
  have hne : bk ≠ g := fun e => by
    subst e
    have h3 := (h2 j hj).1
    rw [Lib.cell_of_heap hg] at h3
    exact ints_no h3
  exact ⟨cell_set_neP (cell_set_neP (h2 j hj).1 hne) hne, cell_set_neP (cell_set_neP (h2 j hj).2 hne) hne⟩
theorem ErrAt.set2P {W : World} {A : Nat → Addr} {y : Value} {c : Nat} {o : Option Nat} {g : Nat} {z : Value} {n : Int} {T : TypeId} (h : ErrAt W A y c o) (hg : W.heap[g]? = some (.cells #[z, .int .i64 n] T (0, 0))) (a b : Value) : ErrAt ((W.setCell ⟨g, 0, none⟩ a).setCell ⟨g, 1, none⟩ b) A y c o := by
  cases o with
  | none => exact h
  | some i =>
    obtain ⟨h0, f, rfl, h1, h2⟩ := h
    have hne : f ≠ g := fun e => by
      subst e
      obtain ⟨_, g1, _⟩ := bx2 hg
      obtain ⟨a', ha⟩ := errA_ne A h0
      rw [g1, ha] at h2
      cases h2
    exact ⟨h0, f, rfl, cell_set_neP (cell_set_neP h1 hne) hne, cell_set_neP (cell_set_neP h2 hne) hne⟩
theorem str_rf (a : ByteArray) : (a.toList == a.toList) = true := beq_self_eq_true _
theorem sameT_any (X Y : List ByteArray) (v u : Value) (w : World) (hn : X.length ≤ 1000000) (hv : TxAt w v X) (hu : TxAt w u Y) : Calls Tryz.prog 19 #[v, u] w fun e w' => e = .returned (.bool (decide (X = Y))) ∧ Below w.heap.size w w' := by
  obtain ⟨a, c, rfl, _, h⟩ := hv
  obtain ⟨a', c', rfl, _, h'⟩ := hu
  by_cases hl : X.length = Y.length
  · cases X with
    | nil =>
      have : Y = [] := List.length_eq_zero_iff.1 hl.symm
      subst this
      exact (same_none a a' c c' w).mono fun _ _ ⟨h1, h2⟩ => ⟨h1, by rw [h2]; exact Below.refl _ _⟩
    | cons x r =>
      obtain ⟨b, o, rfl, h2⟩ := h (by simp)
      obtain ⟨b', o', rfl, h3⟩ := h' (fun e => by rw [e] at hl; simp at hl)
      rw [← hl]
      exact same_some b o c b' o' c' (x :: r) Y w hl hn h2 h3
  · rw [decide_eq_false (fun e => hl (by rw [e]))]
    exact (same_len a a' _ c _ c' w (by rw [beq_eq_false_iff_ne]; omega)).mono fun _ _ ⟨h1, h2⟩ => ⟨h1, by rw [h2]; exact Below.refl _ _⟩
theorem ixs_shQ {w : World} {v : Value} {Q : List Raw} {L : List Ent} (I : Ixs w v Q L) (h : okI L = true) : shQ Q := ixs_sz I h
theorem pk_len {Q : List Raw} {L : List Ent} (sh : ∀ e, e ∈ L → ShE e) (m : Bm) : (pkOf Q L m).length ≤ 1000 := by
  unfold pkOf
  rw [packL_len]
  unfold entOf
  cases h : L[(idxOf (isM m) Q).toNat]? with
  | none => exact Nat.zero_le _
  | some e => exact (sh e (List.mem_of_getElem? h)).pn
theorem pkf_len {Q : List Raw} {L : List Ent} (sh : ∀ e, e ∈ L → ShE e) : ∀ R : List Bm, (R.flatMap (pkOf Q L)).length ≤ R.length * 1000
  | [] => Nat.zero_le _
  | m :: R => by
    have h1 := pk_len (Q := Q) sh m
    have h2 := pkf_len (Q := Q) sh R
    rw [List.flatMap_cons, List.length_append, List.length_cons]; omega
theorem al_len {Q : List Raw} {L : List Ent} {R : List Bm} (sh : ∀ e, e ∈ L → ShE e) (hR : R.length ≤ 1000) : (alX Q L R).length ≤ 1000000 := by
  unfold alX
  split
  · have h1 := pkf_len (Q := Q) sh R
    have h2 := fold_len (Z := R.flatMap (pkOf Q L)) (X := [])
    unfold alN
    simp only [List.length_nil] at h2
    omega
  · exact Nat.zero_le _
theorem whN_len {Q : List Raw} {L : List Ent} {p : ByteArray} {X : List ByteArray} {n : Nat} : (whN Q L p X n).length ≤ X.length := by
  unfold whN
  rw [List.length_map]; exact List.length_filter_le _ _
theorem whD_len {Q : List Raw} {L : List Ent} {p : ByteArray} {X : List ByteArray} : ∀ n : Nat, (whD Q L p X n).length ≤ n * X.length
  | 0 => Nat.zero_le _
  | n + 1 => by
    have h1 := whN_len (Q := Q) (L := L) (p := p) (X := X) (n := n + 1)
    have h2 := whD_len (Q := Q) (L := L) (p := p) (X := X) n
    unfold whD
    rw [List.length_append, Nat.add_mul, Nat.one_mul]; omega
theorem wh_len {Q : List Raw} {L : List Ent} {p : ByteArray} (h : Q.length ≤ 1000) : (whX Q L p).length ≤ 1000000 := by
  unfold whX
  split
  · have h1 := whD_len (Q := Q) (L := L) (p := p) (X := phX Q) 100
    have h2 := fold_len (Z := pathL Q) (X := [])
    rw [pathL_len] at h2
    simp only [List.length_nil] at h2
    have h3 : (phX Q).length ≤ 1000 := by unfold phX; omega
    omega
  · exact Nat.zero_le _
set_option maxRecDepth 100000 in
set_option maxHeartbeats 4000000 in
theorem kt_main {T : World → Prop} (OC : OfC T) (AC : AllC T) (WC : WhoC T) (KT : StayK T) (Q0 : List Raw) (L : List Ent) (R : List Bm) (p : ByteArray) (v rv : Value) (A : Nat → Addr) (m : Int) (w : World) (S : Te w A m) (hT : T w) (N : Er.Sen w A) (I : Ixs w v Q0 L) (em : EmI Q0 L) (hr : MsAt w rv R) (hem : Em rv R) (hok : okI L = true) (hokR : okLN 15 R = true) (hp : p.size ≤ 100) :
    Calls Tryz.prog 4 #[v, rv, .string p] w fun e w' => e = .returned (.bool true) ∧ Below w.heap.size w w' := by
  have hn101 : L.length ≤ 101 := by rcases (okI_iff hok).1 with h | h <;> omega
  have hR15 := (okLN_iff hokR).1
  have g1 : ¬ (100 : Int) < (p.size : Int) := by omega
  have HIN := hid (packed_any OC KT A m w S hT)
  have HLO := hid (fun W (h : Below w.heap.size w W) => longI_any Q0 L v W (I.below h))
  rw [if_pos hok] at HLO
  have HLM := hid (fun W (h : Below w.heap.size w W) => longN_any 15 (by decide) R rv W (hr.below h))
  rw [if_pos hokR] at HLM
  have HOW := hid (fun W (h : Below w.heap.size w W) => ownI_any Q0 L v W (by omega) (I.below h) em (okI_fits hok))
  have HOM := hid (fun W (h : Below w.heap.size w W) => ownM_any rv R W (by omega) (hr.below h) hem)
  have HRO := hid (fun W (h : Below w.heap.size w W) => rof_any Q0 L R p v rv W (by omega) (okI_sh hok) (I.below h) (by omega) (hr.below h) (by omega))
  have HRA := hid (fun W (h : Below w.heap.size w W) => rap_any Q0 L R v rv W (by omega) (okI_sh hok) (I.below h) (by omega) (hr.below h))
  have HRW := hid (fun W (h : Below w.heap.size w W) => rwh_any Q0 L p v W (by omega) (okI_sh hok) (ixs_shQ I hok) (I.below h))
  have HPO := hid (fun Q u ru W (h : Below w.heap.size w W) (J : Ixs W u Q L) (hm : MsAt W ru R) => OC Q L R p u ru A m W (by omega) (okI_sh hok) (ixs_shQ J hok) (by omega) (Nat.le_trans (hv_all _ _ _ _) (by omega)) (by omega) (S.below h) (KT w W hT h) J hm)
  have HPA := hid (fun Q u ru W (h : Below w.heap.size w W) (J : Ixs W u Q L) (hm : MsAt W ru R) => AC Q L R u ru A m W (by omega) (okI_sh hok) (ixs_shQ J hok) (by omega) (S.below h) (KT w W hT h) J hm)
  have HPW := hid (fun Q u W (h : Below w.heap.size w W) (J : Ixs W u Q L) => WC Q L p u A m W (by omega) (okI_sh hok) (ixs_shQ J hok) (by omega) (S.below h) (KT w W hT h) J)
  have HFA := hid (fun r W y (h : Below w.heap.size w W) (hr : r.1 ≤ 10) (he : ErrAt W A y r.1 r.2) => faulted3_any A y r W (N.below h) he hr)
  have HCL := hid (chk_le Q0 L)
  have HQL := hid (show Q0.length ≤ 1000 by rw [I.ln]; omega)
  have HXB := hid (al_len (Q := Q0) (R := R) (okI_sh hok) (by omega))
  have HK0 := hid (keys_of I)
  obtain ⟨a0, c0, hv0, -⟩ := id I.es
  subst hv0
  obtain ⟨ra, rc, hrv, -⟩ := id hr
  subst hrv
  clear S N I em hr hem hok hokR OC AC WC KT hT
  go_enter Tryz.func4, Tryz.ntmps4
  go_wp2_with fail
  refine HIN.out.mono ?_
  rintro e w1 ⟨rfl, hb⟩
  have HB1 := hid hb
  clear hb HIN
  go_wp2_with fail
  refine (HLO.out w1 HB1.out).mono ?_
  rintro e w2 ⟨rfl, hb⟩
  have HB2 := hid (HB1.out.trans (hb.mono HB1.out.size))
  clear hb HLO HB1
  go_wp2_with fail
  refine (HLM.out w2 HB2.out).mono ?_
  rintro e w3 ⟨rfl, rfl⟩
  clear HLM
  go_wp2_with fail
  refine (HOW.out w3 HB2.out).mono ?_
  rintro e w4 ⟨ou, Q, rfl, hO, hb⟩
  have HB4 := hid (HB2.out.trans (hb.mono HB2.out.size))
  have HKQ := hid ((keys_of hO.ixs).trans HK0.out.symm)
  have HJ4 := hid hO.ixs
  obtain ⟨oa, oc, hou, -⟩ := id hO.ixs.es
  subst hou
  clear hb hO HOW HK0 HB2
  go_wp2_with fail
  refine (HOM.out w4 HB4.out).mono ?_
  rintro e w5 ⟨ru, rfl, hown, -, hb⟩
  have HB5 := hid (HB4.out.trans (hb.mono HB4.out.size))
  have HJ5 := hid (HJ4.out.below hb)
  have HP5 := hid (HPO.out Q _ ru w5 HB5.out HJ5.out (own_ms hown))
  obtain ⟨ua, un, uc, hru⟩ := own_sl hown
  subst hru
  rw [ofM_same (key_mod HKQ.out), ofF_same (key_mod HKQ.out)] at HP5
  have HOF := hid (ofF_le HCL.out R p)
  generalize (ofM Q0 L R p).1 = M1 at *
  generalize (ofM Q0 L R p).2 = M2 at *
  clear hb hown HPO HJ4 HB4
  go_wp2_with fail
  refine HP5.out.mono ?_
  rintro e w6 ⟨x, rfl, he, hb⟩
  have HB6 := hid (HB5.out.trans (hb.mono HB5.out.size))
  have HJ6 := hid (HJ5.out.below hb)
  have HE6 := hid he
  have HBA6 := hid (HB6.out.alloc HB6.out.size (.cells #[.string M1, .string M2] 38))
  have HNA6 := hid ((Below.refl w6.heap.size w6).alloc (Nat.le_refl _) (.cells #[.string M1, .string M2] 38))
  have HMB6 := hid (heap_new w6 (.cells #[.string M1, .string M2] 38))
  clear hb he HP5 HJ5 HB5
  go_wp2_with fail
  generalize w6.alloc (.cells #[.string M1, .string M2] 38) = w7 at *
  refine (HRO.out _ HBA6.out).mono ?_
  rintro e w8 ⟨rfl, hb⟩
  have HB8 := hid (HBA6.out.trans (hb.mono HBA6.out.size))
  have HN8 := hid (HNA6.out.trans (hb.mono HNA6.out.size))
  have HMB8 := hid ((hb.block _ (lt_of_blk HMB6.out)).trans HMB6.out)
  clear hb HRO HBA6 HNA6 HMB6
  obtain ⟨f1, hf1⟩ : ∃ f1, ofF Q0 L R p = f1 := ⟨_, rfl⟩
  rw [hf1] at HE6 HOF ⊢
  clear hf1
  obtain ⟨b1, b2⟩ := f1
  have HF9 := hid (fun W (h : Below w.heap.size w W) (he : ErrAt W A x b1 b2) => HFA.out (b1, b2) W x h HOF.out he)
  unfold faultV at HF9 ⊢
  simp only at HF9 HE6 ⊢
  have HA9 := hid ((Below.refl w8.heap.size w8).alloc (Nat.le_refl _) (.cells #[.string M1, .string M2] 38))
  have HA10 := hid (HA9.out.alloc HA9.out.size (.cells #[.int .i64 (b1 : Nat), .int .i64 (atOf b2)] 44))
  have HB10 := hid (HB8.out.trans (HA10.out.mono HB8.out.size))
  have HN10 := hid (HN8.out.trans (HA10.out.mono HN8.out.size))
  have HM10 := hid ((HA10.out.block _ (lt_of_blk HMB8.out)).trans HMB8.out)
  have HW10 := hid (heap_old _ (.cells #[.int .i64 (b1 : Nat), .int .i64 (atOf b2)] 44) (heap_new w8 (.cells #[.string M1, .string M2] 38)))
  have HF10 := hid (heap_new (w8.alloc (.cells #[.string M1, .string M2] 38)) (.cells #[.int .i64 (b1 : Nat), .int .i64 (atOf b2)] 44))
  have hz8 : (w8.alloc (.cells #[.string M1, .string M2] 38)).heap.size = w8.heap.size + 1 := by simp
  rw [hz8] at HF10
  generalize ((b1 : Nat) : Int) = F1 at *
  generalize atOf b2 = F2 at *
  have HQ10 := hid HA10.out
  have HJ8 := hid (HJ6.out.below HN8.out)
  have HG8 := hid HB8.out.size
  clear HA9 HA10 HB8 HN8 HMB8 hz8 HOF
  go_wp2_with fail
  generalize (w8.alloc (.cells #[.string M1, .string M2] 38)).alloc (.cells #[.int .i64 F1, .int .i64 F2] 44) = w10 at *
  have HE10 := hid (HE6.out.below HN10.out)
  refine (HF9.out _ HB10.out HE10.out).mono ?_
  rintro e w11 ⟨rfl, hb⟩
  have HB11 := hid (HB10.out.trans (hb.mono HB10.out.size))
  have HN11 := hid (HN10.out.trans (hb.mono HN10.out.size))
  have HQ11 := hid (HQ10.out.trans (hb.mono HQ10.out.size))
  have HM11 := hid ((hb.block _ (lt_of_blk HM10.out)).trans HM10.out)
  have HW11 := hid ((hb.block _ (lt_of_blk HW10.out)).trans HW10.out)
  have HF11 := hid ((hb.block _ (lt_of_blk HF10.out)).trans HF10.out)
  clear hb HF9 HB10 HN10 HM10 HW10 HF10 HE10
  obtain ⟨m0, m1, mf⟩ := bx2 HM11.out
  obtain ⟨v0, v1, vf⟩ := bx2 HW11.out
  have hs1 := str_rf M1
  have hs2 := str_rf M2
  go_wp2_with fail
  clear m0 m1 mf v0 v1 vf hs1 hs2 HM11 HW11
  have HJ11 := hid (HJ6.out.below HN11.out)
  refine (HOM.out w11 HB11.out).mono ?_
  rintro e w12 ⟨ru2, rfl, hown, -, hb⟩
  have HB12 := hid (HB11.out.trans (hb.mono HB11.out.size))
  have HJ12 := hid (HJ11.out.below hb)
  have HQ12 := hid (HQ11.out.trans (hb.mono HQ11.out.size))
  have HF12 := hid ((hb.block _ (lt_of_blk HF11.out)).trans HF11.out)
  have HP12 := hid (HPA.out Q _ ru2 w12 HB12.out HJ12.out (own_ms hown))
  obtain ⟨ua2, un2, uc2, hru2⟩ := own_sl hown
  subst hru2
  rw [alX_same (key_mod HKQ.out), alF_same (key_mod HKQ.out)] at HP12
  have HAF := hid (alF_le HCL.out R)
  clear hb hown HPA HOM HJ11 HB11 HN11 HF11 HJ6 HE6
  go_wp2_with fail
  refine HP12.out.mono ?_
  rintro e w13 ⟨xv, y, rfl, hx, he, hb⟩
  have HB13 := hid (HB12.out.trans (hb.mono HB12.out.size))
  have HQ13 := hid (HQ12.out.trans (hb.mono HQ12.out.size))
  have HF13 := hid ((hb.block _ (lt_of_blk HF12.out)).trans HF12.out)
  have HE13 := hid he
  have HX13 := hid hx
  obtain ⟨xa, xc, hx1, -⟩ := hx
  subst hx1
  clear hb he HP12 HJ12 HB12 HF12 HQ12
  go_wp2_with fail
  refine (HRA.out _ HB13.out).mono ?_
  rintro e w14 ⟨yv, rfl, hy, hb⟩
  have HB14 := hid (HB13.out.trans (hb.mono HB13.out.size))
  have HQ14 := hid (HQ13.out.trans (hb.mono HQ13.out.size))
  have HF14 := hid ((hb.block _ (lt_of_blk HF13.out)).trans HF13.out)
  have HE14 := hid (HE13.out.below hb)
  have HX14 := hid (HX13.out.below hb)
  have HY14 := hid hy
  obtain ⟨ya, yc, hy1, -⟩ := hy
  subst hy1
  clear hb HRA HB13 HF13 HE13 HX13 HQ13
  generalize alX Q0 L R = XX at *
  obtain ⟨f2, hf2⟩ : ∃ f2, alF Q0 L R = f2 := ⟨_, rfl⟩
  rw [hf2] at HE14 HAF ⊢
  clear hf2
  obtain ⟨g1, g2⟩ := f2
  have HF15 := hid (fun W (h : Below w.heap.size w W) (he : ErrAt W A y g1 g2) => HFA.out (g1, g2) W y h HAF.out he)
  unfold faultV at HF15 ⊢
  simp only at HF15 HE14 ⊢
  generalize ((g1 : Nat) : Int) = G1 at *
  generalize atOf g2 = G2 at *
  obtain ⟨f0, f1', ff⟩ := bx2 HF14.out
  have HB15 := hid (show Below w.heap.size w ((w14.setCell ⟨w8.heap.size + 1, 0, none⟩ (.int .i64 G1)).setCell ⟨w8.heap.size + 1, 1, none⟩ (.int .i64 G2)) from put2_below HB14.out (Nat.le_succ_of_le HG8.out))
  have HQ15 := hid (show Below w8.heap.size w8 ((w14.setCell ⟨w8.heap.size + 1, 0, none⟩ (.int .i64 G1)).setCell ⟨w8.heap.size + 1, 1, none⟩ (.int .i64 G2)) from put2_below HQ14.out (Nat.le_succ _))
  have HE15 := hid (HE14.out.set2P HF14.out (.int .i64 G1) (.int .i64 G2))
  have HX15 := hid (HX14.out.set2 HF14.out (.int .i64 G1) (.int .i64 G2))
  have HY15 := hid (HY14.out.set2 HF14.out (.int .i64 G1) (.int .i64 G2))
  have HFB15 := hid (show ((w14.setCell ⟨w8.heap.size + 1, 0, none⟩ (.int .i64 G1)).setCell ⟨w8.heap.size + 1, 1, none⟩ (.int .i64 G2)).heap[w8.heap.size + 1]? = some (.cells #[.int .i64 G1, .int .i64 G2] 44 (0, 0)) by rw [set_block (set_block HF14.out)]; rfl)
  go_wp2_with fail
  generalize (w14.setCell ⟨w8.heap.size + 1, 0, none⟩ (.int .i64 G1)).setCell ⟨w8.heap.size + 1, 1, none⟩ (.int .i64 G2) = w15 at *
  clear f0 f1' ff HF14 HE14 HX14 HY14 HB14 HQ14
  refine (HF15.out _ HB15.out HE15.out).mono ?_
  rintro e w16 ⟨rfl, hb⟩
  have HB16 := hid (HB15.out.trans (hb.mono HB15.out.size))
  have HQ16 := hid (HQ15.out.trans (hb.mono HQ15.out.size))
  have HX16 := hid (HX15.out.below hb)
  have HY16 := hid (HY15.out.below hb)
  have HFB16 := hid ((hb.block _ (lt_of_blk HFB15.out)).trans HFB15.out)
  have HST := hid (sameT_any XX XX _ _ w16 HXB.out HX16.out HY16.out)
  rw [decide_eq_true rfl] at HST
  clear hb HB15 HQ15 HX15 HY15 HFB15 HE15 HF15
  go_wp2_with fail
  refine HST.out.mono ?_
  rintro e w17 ⟨rfl, hb⟩
  have HB17 := hid (HB16.out.trans (hb.mono HB16.out.size))
  have HQ17 := hid (HQ16.out.trans (hb.mono HQ16.out.size))
  have HFB17 := hid ((hb.block _ (lt_of_blk HFB16.out)).trans HFB16.out)
  have HJ17 := hid (HJ8.out.below HQ17.out)
  have HP17 := hid (HPW.out Q _ w17 HB17.out HJ17.out)
  rw [whX_same HKQ.out, chk_same (key_mod HKQ.out)] at HP17
  clear hb HB16 HQ16 HFB16 HPW HST
  go_wp2_with fail
  refine HP17.out.mono ?_
  rintro e w18 ⟨zv, z, rfl, hz, he, hb⟩
  have HB18 := hid (HB17.out.trans (hb.mono HB17.out.size))
  have HFB18 := hid ((hb.block _ (lt_of_blk HFB17.out)).trans HFB17.out)
  have HE18 := hid he
  have HZ18 := hid hz
  obtain ⟨za, zc, hz1, -⟩ := hz
  subst hz1
  clear hb he HP17 HB17 HFB17
  go_wp2_with fail
  refine (HRW.out _ HB18.out).mono ?_
  rintro e w19 ⟨vv, rfl, hv, hb⟩
  have HB19 := hid (HB18.out.trans (hb.mono HB18.out.size))
  have HFB19 := hid ((hb.block _ (lt_of_blk HFB18.out)).trans HFB18.out)
  have HE19 := hid (HE18.out.below hb)
  have HZ19 := hid (HZ18.out.below hb)
  have HV19 := hid hv
  obtain ⟨va, vc, hv1, -⟩ := hv
  subst hv1
  clear hb HRW HB18 HFB18 HE18 HZ18
  have HWB := hid (wh_len (L := L) (p := p) HQL.out)
  generalize whX Q0 L p = ZZ at *
  obtain ⟨f3, hf3⟩ : ∃ f3, chk Q0 L = f3 := ⟨_, rfl⟩
  rw [hf3] at HE19 HCL ⊢
  clear hf3
  obtain ⟨h1, h2⟩ := f3
  have HF20 := hid (fun W (h : Below w.heap.size w W) (he : ErrAt W A z h1 h2) => HFA.out (h1, h2) W z h HCL.out he)
  unfold faultV at HF20 ⊢
  simp only at HF20 HE19 ⊢
  generalize ((h1 : Nat) : Int) = G3 at *
  generalize atOf h2 = G4 at *
  obtain ⟨f0, f1', ff⟩ := bx2 HFB19.out
  have HB20 := hid (show Below w.heap.size w ((w19.setCell ⟨w8.heap.size + 1, 0, none⟩ (.int .i64 G3)).setCell ⟨w8.heap.size + 1, 1, none⟩ (.int .i64 G4)) from put2_below HB19.out (Nat.le_succ_of_le HG8.out))
  have HE20 := hid (HE19.out.set2P HFB19.out (.int .i64 G3) (.int .i64 G4))
  have HZ20 := hid (HZ19.out.set2 HFB19.out (.int .i64 G3) (.int .i64 G4))
  have HV20 := hid (HV19.out.set2 HFB19.out (.int .i64 G3) (.int .i64 G4))
  go_wp2_with fail
  generalize (w19.setCell ⟨w8.heap.size + 1, 0, none⟩ (.int .i64 G3)).setCell ⟨w8.heap.size + 1, 1, none⟩ (.int .i64 G4) = w20 at *
  clear f0 f1' ff HFB19 HE19 HZ19 HV19 HB19
  refine (HF20.out _ HB20.out HE20.out).mono ?_
  rintro e w21 ⟨rfl, hb⟩
  have HB21 := hid (HB20.out.trans (hb.mono HB20.out.size))
  have HSM := hid (sameG_any ZZ ZZ _ _ w21 HWB.out (HZ20.out.below hb) (HV20.out.below hb))
  rw [decide_eq_true rfl] at HSM
  clear hb HB20 HE20 HZ20 HV20 HF20
  go_wp2_with fail
  refine HSM.out.mono ?_
  rintro e w22 ⟨rfl, hb⟩
  have HB22 := hid (HB21.out.trans (hb.mono HB21.out.size))
  clear hb
  go_wp2_with fail
  go_ret
  exact ⟨rfl, HB22.out⟩
end Ve
end Go.Proofs.YtjndahjfodnllaaGreatDoor


namespace Go.Proofs.YtjndahjfodnllaaGreatDoor
open Go.RowKit Go.Maps
namespace Ve
set_option maxRecDepth 100000 in
set_option maxHeartbeats 2000000 in
theorem kt_long {T : World → Prop} (OC : OfC T) (KT : StayK T) (Q0 : List Raw) (L : List Ent) (R : List Bm) (p : ByteArray) (v rv : Value) (A : Nat → Addr) (m : Int) (w : World) (S : Te w A m) (hT : T w) (I : Ixs w v Q0 L) (hr : MsAt w rv R) (h : okI L = false ∨ (okI L = true ∧ (okLN 15 R = false ∨ (okLN 15 R = true ∧ 100 < p.size)))) :
    Calls Tryz.prog 4 #[v, rv, .string p] w fun e w' => e = .returned (.bool true) ∧ Below w.heap.size w w' := by
  have HIN := hid (packed_any OC KT A m w S hT)
  have HLO := hid (fun W (h : Below w.heap.size w W) => longI_any Q0 L v W (I.below h))
  have HLM := hid (fun W (h : Below w.heap.size w W) => longN_any 15 (by decide) R rv W (hr.below h))
  obtain ⟨a0, c0, hv0, -⟩ := id I.es
  subst hv0
  obtain ⟨ra, rc, hrv, -⟩ := id hr
  subst hrv
  rcases h with h | ⟨h, h1 | ⟨h1, h2⟩⟩
  · rw [h] at HLO
    clear S I h OC KT hT hr
    go_enter Tryz.func4, Tryz.ntmps4
    go_wp2_with fail
    refine HIN.out.mono ?_
    rintro e w1 ⟨rfl, hb⟩
    have HB1 := hid hb
    clear hb
    go_wp2_with fail
    refine (HLO.out w1 HB1.out).mono ?_
    rintro e w2 ⟨rfl, hb⟩
    have HB2 := hid (HB1.out.trans (hb.mono HB1.out.size))
    clear hb
    go_wp2_with fail
    go_ret
    exact ⟨rfl, HB2.out⟩
  · rw [if_pos h] at HLO
    rw [h1] at HLM
    clear S I h h1 OC KT hT hr
    go_enter Tryz.func4, Tryz.ntmps4
    go_wp2_with fail
    refine HIN.out.mono ?_
    rintro e w1 ⟨rfl, hb⟩
    have HB1 := hid hb
    clear hb
    go_wp2_with fail
    refine (HLO.out w1 HB1.out).mono ?_
    rintro e w2 ⟨rfl, hb⟩
    have HB2 := hid (HB1.out.trans (hb.mono HB1.out.size))
    clear hb
    go_wp2_with fail
    refine (HLM.out w2 HB2.out).mono ?_
    rintro e w3 ⟨rfl, rfl⟩
    have HB3 := HB2
    go_wp2_with fail
    go_ret
    exact ⟨rfl, HB3.out⟩
  · rw [if_pos h] at HLO
    rw [if_pos h1] at HLM
    have g1 : (100 : Int) < (p.size : Int) := by omega
    clear S I h h1 OC KT hT hr
    go_enter Tryz.func4, Tryz.ntmps4
    go_wp2_with fail
    refine HIN.out.mono ?_
    rintro e w1 ⟨rfl, hb⟩
    have HB1 := hid hb
    clear hb
    go_wp2_with fail
    refine (HLO.out w1 HB1.out).mono ?_
    rintro e w2 ⟨rfl, hb⟩
    have HB2 := hid (HB1.out.trans (hb.mono HB1.out.size))
    clear hb
    go_wp2_with fail
    refine (HLM.out w2 HB2.out).mono ?_
    rintro e w3 ⟨rfl, rfl⟩
    have HB3 := HB2
    go_wp2_with fail
    go_ret
    exact ⟨rfl, HB3.out⟩
theorem pkgTells_any {T : World → Prop} (OC : OfC T) (AC : AllC T) (WC : WhoC T) (KT : StayK T) (Q0 : List Raw) (L : List Ent) (R : List Bm) (p : ByteArray) (v rv : Value) (A : Nat → Addr) (m : Int) (w : World) (S : Te w A m) (hT : T w) (N : Er.Sen w A) (I : Ixs w v Q0 L) (em : EmI Q0 L) (hr : MsAt w rv R) (hem : Em rv R) :
    Calls Tryz.prog 4 #[v, rv, .string p] w fun e w' => e = .returned (.bool true) ∧ Below w.heap.size w w' := by
  cases hok : okI L with
  | false => exact kt_long OC KT Q0 L R p v rv A m w S hT I hr (Or.inl hok)
  | true =>
    cases hokR : okLN 15 R with
    | false => exact kt_long OC KT Q0 L R p v rv A m w S hT I hr (Or.inr ⟨hok, Or.inl hokR⟩)
    | true =>
      by_cases hp : 100 < p.size
      · exact kt_long OC KT Q0 L R p v rv A m w S hT I hr (Or.inr ⟨hok, Or.inr ⟨hokR, hp⟩⟩)
      · exact kt_main OC AC WC KT Q0 L R p v rv A m w S hT N I em hr hem hok hokR (by omega)
end Ve
end Go.Proofs.YtjndahjfodnllaaGreatDoor


namespace Go.Proofs.YtjndahjfodnllaaGreatDoor
open Go.ChangeShapes Go.WideShapes Go.ChangeAt Go.RowKit Go.ChangeMaps Go.Joins
namespace Ve
theorem oCellsMod : Tryz.prog.cellsOf 38 = 2 := by kernel_rfl
theorem oCellsStr : Tryz.prog.cellsOf 9 = 1 := by kernel_rfl
theorem oCellsEnt : Tryz.prog.cellsOf 61 = 5 := by kernel_rfl
theorem oCellsMods : Tryz.prog.cellsOf 23 = 1 := by kernel_rfl
theorem oCellsSstr : Tryz.prog.cellsOf 33 = 1 := by kernel_rfl
theorem oCellsBool : Tryz.prog.cellsOf 4 = 1 := by kernel_rfl
def strOf : Value → ByteArray
  | .string s => s
  | _ => ⟨#[]⟩
set_option maxRecDepth 100000 in
theorem open_ms {H : Type} {enc : TypeId × Value → H} {w : World} {base fuel : Nat} {held : Bool} {v : Value} {x : DataW H × List MemPlace}
    (h : DataW.trod enc Tryz.prog w base (fun _ => true) held fuel 23 [v] = some x) : ∃ L, MsAt w v L ∧ Em v L := by
  rcases Go.Deep.open_slice_pairs Tryz.underlying23 Tryz.underlying38 oCellsMod rfl rfl oCellsStr oCellsStr h with ⟨hcs, _⟩ | ⟨a, len, cap, m, n, V0, V1, D0, D1, P0, P1, hcs, _, hl, _, hm, _, hx⟩
  · simp only [List.cons.injEq, and_true] at hcs
    subst hcs
    exact ⟨[], ⟨none, 0, rfl, Nat.le_refl _, fun h => absurd rfl h⟩, fun a c e _ => Or.inl e.symm⟩
  · simp only [List.cons.injEq, and_true] at hcs
    subst hcs
    simp only [if_true] at hm
    subst hm
    have hlen : ((List.range len).map fun i => (strOf (V0 i), strOf (V1 i))).length = len := by simp
    refine ⟨(List.range len).map fun i => (strOf (V0 i), strOf (V1 i)), ⟨some a, m, by rw [hlen], by rw [hlen]; exact hl, fun hne => ?_⟩, fun a' c e h0 => ?_⟩
    · have h0l : 0 < len := by rw [← hlen]; exact List.length_pos_iff.2 hne
      obtain ⟨b, off, spot⟩ := a
      have hspot : spot = none := by simpa [Addr.add] using World.cell?_spot (hx 0 (by omega)).1
      subst hspot
      refine ⟨b, off, rfl, fun j hj => ?_⟩
      have hj2 : j < len := by rw [← hlen]; exact hj
      obtain ⟨g0, g1, t0, t1⟩ := hx j (by omega)
      obtain ⟨s0, e0, _, _⟩ := DataW.trod_string Tryz.underlying9 t0
      obtain ⟨s1, e1, _, _⟩ := DataW.trod_string Tryz.underlying9 t1
      simp only [List.cons.injEq, and_true] at e0 e1
      rw [e0] at g0
      rw [e1] at g1
      simp only [List.getElem_map, List.getElem_range, e0, e1]
      rw [Addr.add_lit] at g0 g1
      exact ⟨g0, g1⟩
    · have hz : len = 0 := by rw [← hlen, h0]; rfl
      rw [hlen] at e
      subst hz
      right
      injection e with e1 e2 e3
      exact ⟨a, by rw [← e1]⟩
set_option maxRecDepth 100000 in
theorem open_tx {H : Type} {enc : TypeId × Value → H} {w : World} {base fuel : Nat} {held : Bool} {v : Value} {x : DataW H × List MemPlace}
    (h : DataW.trod enc Tryz.prog w base (fun _ => true) held fuel 33 [v] = some x) : ∃ X, TxAt w v X ∧ EmT v X := by
  rcases open_strings Tryz.underlying33 Tryz.underlying9 oCellsStr h with ⟨hcs, _⟩ | ⟨a, len, cap, ss, hcs, _, hl, _, hm, _, hx, _⟩
  · simp only [List.cons.injEq, and_true] at hcs
    subst hcs
    exact ⟨[], ⟨none, 0, rfl, Nat.le_refl _, fun h => absurd rfl h⟩, fun a c e _ => Or.inl e.symm⟩
  · simp only [List.cons.injEq, and_true] at hcs
    subst hcs
    simp only [if_true] at hm
    have hlen : (ss.take len).length = len := by rw [List.length_take]; omega
    refine ⟨ss.take len, ⟨some a, cap, by rw [hlen], by rw [hlen]; exact hl, fun hne => ?_⟩, fun a' c e h0 => ?_⟩
    · have h0l : 0 < len := by rw [← hlen]; exact List.length_pos_iff.2 hne
      obtain ⟨b, off, spot⟩ := a
      have hspot : spot = none := by simpa [Addr.add] using World.cell?_spot (hx 0 (by omega))
      subst hspot
      refine ⟨b, off, rfl, fun j hj => ?_⟩
      have hj2 : j < len := by rw [← hlen]; exact hj
      have g := hx j (by omega)
      rw [Addr.add_lit, List.getD_eq_getElem?_getD, List.getElem?_eq_getElem (by omega)] at g
      rw [List.getElem_take]
      exact g
    · have hz : len = 0 := by rw [← hlen, h0]; rfl
      rw [hlen] at e
      subst hz
      right
      injection e with e1 e2 e3
      exact ⟨a, by rw [← e1]⟩
set_option maxRecDepth 100000 in
theorem open_ent {H : Type} {enc : TypeId × Value → H} {w : World} {base fuel : Nat} {held : Bool} {cs : List Value} {x : DataW H × List MemPlace}
    (h : DataW.trod enc Tryz.prog w base (fun _ => true) held fuel 61 cs = some x) : ∃ (r : Raw) (e : Ent), cs = rowR r ∧ slR r ∧ RawOk w r e ∧ Em r.2.1 e.2.1 ∧ EmT r.2.2.1 e.2.2.1 := by
  obtain ⟨y0, y1, y2, y3, n, _, hl, h0, h1, h2, h3⟩ := trod_struct4 Tryz.underlying61 h
  rw [oCellsEnt] at hl
  match cs, hl with
  | [c0, c1, c2, c3, c4], _ =>
    simp only [oCellsMod, oCellsMods, oCellsSstr, oCellsBool, List.drop, List.take] at h0 h1 h2 h3
    obtain ⟨z0, z1, n2, _, _, k0, k1⟩ := trod_struct2 Tryz.underlying38 h0
    simp only [oCellsStr, List.drop, List.take] at k0 k1
    obtain ⟨s0, e0, _, _⟩ := DataW.trod_string Tryz.underlying9 k0
    obtain ⟨s1, e1, _, _⟩ := DataW.trod_string Tryz.underlying9 k1
    obtain ⟨R, hR, hER⟩ := open_ms h1
    obtain ⟨X, hX, hEX⟩ := open_tx h2
    obtain ⟨b, e4, _⟩ := DataW.trod_bool Tryz.underlying4 h3
    simp only [List.cons.injEq, and_true] at e0 e1 e4
    subst e0 e1 e4
    refine ⟨((s0, s1), c2, c3, b), ((s0, s1), R, X, b), rfl, ⟨?_, ?_⟩, ⟨rfl, hR, hX, rfl⟩, hER, hEX⟩
    · obtain ⟨a, c, e, _⟩ := hR; exact ⟨_, _, _, e⟩
    · obtain ⟨a, c, e, _⟩ := hX; exact ⟨_, _, _, e⟩
set_option maxRecDepth 100000 in
theorem open_ix {H : Type} {enc : TypeId × Value → H} {w : World} {base fuel : Nat} {held : Bool} {v : Value} {x : DataW H × List MemPlace}
    (h : DataW.trod enc Tryz.prog w base (fun _ => true) held fuel 22 [v] = some x) : ∃ Q L, Ixs w v Q L ∧ EmI Q L := by
  rcases Go.Deep.open_slice Tryz.underlying22 h with ⟨hcs, _⟩ | ⟨a, len, cap, m, n, D, Pl, hcs, _, hl, _, hm, _, hx⟩
  · simp only [List.cons.injEq, and_true] at hcs
    subst hcs
    exact ⟨[], [], ⟨⟨none, 0, rfl, Nat.le_refl _, fun r hr => (by cases hr), fun h => absurd rfl h⟩, rfl, fun j h1 => absurd h1 (Nat.not_lt_zero _)⟩, fun j h1 => absurd h1 (Nat.not_lt_zero _)⟩
  · simp only [List.cons.injEq, and_true] at hcs
    subst hcs
    simp only [if_true] at hm
    subst hm
    have each : ∀ i, i < len → ∃ q : Raw × Ent, (∀ c (hc : c < 5), w.cell? (a.add (i * 5 + c)) = (rowR q.1)[c]?) ∧ slR q.1 ∧ RawOk w q.1 q.2 ∧ Em q.1.2.1 q.2.2.1 ∧ EmT q.1.2.2.1 q.2.2.2.1 := fun i hi => by
      obtain ⟨cs', h1, h2⟩ := hx i (by omega)
      obtain ⟨r, e, hcs, k1, k2, k3, k4⟩ := open_ent h2
      rw [oCellsEnt] at h1
      obtain ⟨_, hlen, hcell⟩ := World.cells?_some h1
      refine ⟨(r, e), fun c hc => ?_, k1, k2, k3, k4⟩
      have := hcell c (by omega)
      rw [Go.Deep.add_add] at this
      rw [this, hcs]
    obtain ⟨q, hq⟩ := Go.Deep.choose_lt each
    have hlq : ((List.range len).map fun i => (q i).1).length = len := by simp
    have hll : ((List.range len).map fun i => (q i).2).length = len := by simp
    refine ⟨(List.range len).map fun i => (q i).1, (List.range len).map fun i => (q i).2, ⟨⟨some a, m, by rw [hlq], by rw [hlq]; exact hl, fun r hr => ?_, fun hne => ?_⟩, by rw [hlq, hll], fun j h1 h2 => ?_⟩, fun j h1 h2 => ?_⟩
    · obtain ⟨i, hi, rfl⟩ := List.mem_map.1 hr
      exact (hq i (List.mem_range.1 hi)).2.1
    · have h0l : 0 < len := by rw [← hlq]; exact List.length_pos_iff.2 hne
      obtain ⟨b, off, spot⟩ := a
      have g0 := (hq 0 h0l).1 0 (by omega)
      have hspot : spot = none := by
        have : ∃ u, World.cell? w ((⟨b, off, spot⟩ : Addr).add (0 * 5 + 0)) = some u := ⟨_, g0⟩
        obtain ⟨u, hu⟩ := this
        simpa [Addr.add] using World.cell?_spot hu
      subst hspot
      refine ⟨b, off, rfl, fun j hj => ?_⟩
      have hj2 : j < len := by rw [← hlq]; exact hj
      have g := (hq j hj2).1
      simp only [List.getElem_map, List.getElem_range]
      refine ⟨?_, ?_, ?_, ?_, ?_⟩
      · have := g 0 (by omega); rw [Addr.add_lit] at this; exact this
      · have := g 1 (by omega); rw [Addr.add_lit] at this; exact this
      · have := g 2 (by omega); rw [Addr.add_lit] at this; exact this
      · have := g 3 (by omega); rw [Addr.add_lit] at this; exact this
      · have := g 4 (by omega); rw [Addr.add_lit] at this; exact this
    · have hj2 : j < len := by rw [← hlq]; exact h1
      simp only [List.getElem_map, List.getElem_range]
      exact (hq j hj2).2.2.1
    · have hj2 : j < len := by rw [← hlq]; exact h1
      simp only [List.getElem_map, List.getElem_range]
      exact (hq j hj2).2.2.2
end Ve
end Go.Proofs.YtjndahjfodnllaaGreatDoor


namespace Go.Proofs.YtjndahjfodnllaaGreatDoor
open Go.ChangeShapes Go.WideShapes Go.ChangeAt Go.RowKit
namespace Ve
theorem wrap_and_shaped {H : Type} {enc : TypeId × Value → H} {a : Assume} {C : Checked} {os : Go.Os} {f : FuncId} {fn : Func} {s : ChangeSpec} {conds : List PathCond} {apart fresh handsOn again : Bool} {X : World → Array Value → Prop}
    (hX : ∀ (w w' : World) (args : Array Value), w.heap = w'.heap → X w args → X w' args)
    (own : ownKnob C.prog.godebug = none) (started : os.Started) (noInit : C.prog.inits.idxOf? f = none) (hfn : C.prog.funcs[f]? = some fn)
    (witness : ∃ (w : World) (tape : Tape) (i : Input), w.os = os ∧ (w.forCall tape i).Shaped C.prog ∧ i.vars = [] ∧ Input.okWide C.prog (w.forCall tape i) .any w.heap.size f i ∧
      ((s.pre enc C.prog fn conds apart (w.forCall tape i).memory i.args ∧ X (w.forCall tape i).memory i.args) ∧ sizedMet enc C.prog fn (OpenSpec.ofChange s) apart (w.forCall tape i).memory i.args) ∧ a.holds C.prog (lone (Frame.enter C.prog f i.args .normal) [] (w.forCall tape i)))
    (contract : ∀ (W : World) (base : Nat) (args : Array Value) (ds gs : List (DataW H)) (before : List MemPlace),
      (∀ (j : Nat) t v, fn.params[j]? = some t → args[j]? = some v → Value.okWide C.prog W .any base t v) →
      DataW.Whole enc C.prog fn.params.toList s.vars apart W args.toList ds gs before → X W args → W.ShapedOpen C.prog →
      Calls C.prog f args W fun e W' => ∃ v, e = .returned v ∧ s.post enc C.prog fn apart fresh handsOn again W args v W') :
    ReturnsInHanded a C os f .any (fun w args => (s.pre enc C.prog fn conds apart w args ∧ X w args) ∧ sizedMet enc C.prog fn (OpenSpec.ofChange s) apart w args) (s.post enc C.prog fn apart fresh handsOn again) := by
  refine returnsInHanded_of_calls own started noInit witness ?_
  intro w tape i _ hsh _ hok hpre _
  obtain ⟨_, _, _, fn', hfn', _, _, _, _, hval⟩ := hok
  have e : fn' = fn := Option.some.inj (hfn'.symm.trans hfn)
  subst e
  obtain ⟨⟨⟨ds, gs, before, hw, _⟩, hx⟩, _⟩ := hpre
  have hw' := DataW.Whole.of_heap (w' := w.forCall tape i) (by rfl) hw
  refine (contract (w.forCall tape i) w.heap.size i.args ds gs before hval hw' (hX _ _ _ (by rfl) hx) hsh).mono fun e W' ⟨v, he, hp⟩ => ?_
  subst he
  exact ChangeSpec.post_blind hp
theorem laidMet_over {P : Program} {w0 : World} {laid : List (String × DataW Unit)} (args : Array Value)
    (hf : w0.layFits P laid [] = true) (hi : w0.layIfaces P laid (w0.layVars P laid) = true) :
    laidMet P laid ((w0.layVars P laid).forCall (fun _ _ => 0) ⟨#[], args, []⟩).memory := by
  have e1 : (laid.filter fun x => (laid.map (·.1)).contains x.1) = laid := List.filter_eq_self.2 fun x hx => List.contains_iff_mem.2 (List.mem_map.2 ⟨x, hx, rfl⟩)
  have e2 : (laid.filter fun x => !(laid.map (·.1)).contains x.1) = [] := List.filter_eq_nil_iff.2 fun x hx => by rw [List.contains_iff_mem.2 (List.mem_map.2 ⟨x, hx, rfl⟩)]; simp
  have h : laidMet P laid (w0.layVars P laid) := laidMet_layVars (w0 := w0) (laid.map (·.1)) [] (by rw [e1]) (by rw [e1]; exact hf) (by rw [e1]; exact hi) (by rw [e2]; exact LaidIn.none)
  exact h.of_heap (by simp [World.memory, World.forCall, Input.heap])
end Ve
end Go.Proofs.YtjndahjfodnllaaGreatDoor


namespace Go.Proofs.YtjndahjfodnllaaGreatDoor
namespace Er
open Go
theorem sens_rest {P : Program} {nm : String} {W : World} {ti tp te ts : TypeId} {ms : Array (String × TypeId)} {f : Field}
    (hi : P.underlying ti = some (.interface ms)) (hrow : ∀ u, P.typeName? 3 u = some nm → u = tp)
    (hp : P.underlying tp = some (.pointer te)) (he : P.underlying te = some (.struct #[f])) (hft : f.type = ts) (hfo : f.offset = 0) (hs : P.underlying ts = some .string) (hc : P.cellsOf te = 1) (hcs : P.cellsOf ts = 1) (rest : List (String × DataW Unit)) :
    ∀ (ns : List (String × Nat × List UInt8)) (ps : List MemPlace),
      DataW.LaidVars P W ((ns.map fun x => (x.1, DataW.iface nm (.ptr (.agg [.lit (.string x.2.2)])))) ++ rest) ps →
      (∀ x, x ∈ ns → P.globalNamed x.1 = some x.2.1 ∧ (P.globals[x.2.1]?).map (·.type) = some ti) →
      (∀ b off, MemPlace.cell b off ∈ ps → (∃ c t, W.heap[b]? = some (.cells c t (0, 0))) ∧ ∀ u v, W.cell? ⟨b, off, none⟩ = some (.iface u v) → Value.okWide P W .any 0 u v) →
      ∃ al : List Addr, al.length = ns.length ∧ (al.map fun a => MemPlace.cell a.block a.off).Sublist ps ∧
        ∀ (i : Nat) (x : String × Nat × List UInt8) (a : Addr), ns[i]? = some x → al[i]? = some a →
          W.cell? ⟨x.2.1, 0, none⟩ = some (.iface tp (.pointer (some a))) ∧ ∃ c t, W.heap[a.block]? = some (.cells c t (0, 0)) := by
  intro ns
  induction ns with
  | nil =>
    intro ps _ _ _
    exact ⟨[], rfl, List.nil_sublist _, fun i x a h => by simp at h⟩
  | cons n r ih =>
    intro ps hl hg hr
    obtain ⟨g, t, cs, fuel, p, q, hg0, ht0, hv0, hd0, hq, e0⟩ := hl
    obtain ⟨k1, k2⟩ := hg n (List.mem_cons_self)
    obtain rfl := Option.some.inj (k1.symm.trans hg0)
    obtain rfl := Option.some.inj (k2.symm.trans ht0)
    subst e0
    obtain ⟨l0⟩ := cs
    have ok0 : ∀ u v, l0 = [.iface u v] → Value.okWide P W .any 0 u v := fun u v e => by
      subst e
      exact (hr n.2.1 0 (by simp [MemPlace.row])).2 u v (by simpa using World.var?_cell hg0 hv0 0)
    obtain ⟨a0, s0, rfl, hc0, hs0, hz0, rfl⟩ := errorString_of_trod hi hrow hp he hft hfo hs hc hcs hd0 ok0
    obtain ⟨al, hlen, hsub, hall⟩ := ih q hq (fun x hx => hg x (List.mem_cons_of_mem _ hx)) (fun b off hm => hr b off (by simp [hm]))
    refine ⟨a0 :: al, by simp [hlen], ?_, ?_⟩
    · simp only [List.map_cons, MemPlace.row, List.range_one, List.map_nil, Nat.add_zero]
      exact List.Sublist.cons _ (List.Sublist.cons_cons _ hsub)
    · intro i x a hx ha
      cases i with
      | zero =>
        simp only [List.getElem?_cons_zero, Option.some.injEq] at hx ha
        subst hx; subst ha
        exact ⟨by simpa using World.var?_cell hg0 hv0 0, (hr a0.block a0.off (by simp [MemPlace.row])).1⟩
      | succ i =>
        simp only [List.getElem?_cons_succ] at hx ha
        exact hall i x a hx ha
theorem unlike {al : List Addr} {ps : List MemPlace} (hs : (al.map fun a => MemPlace.cell a.block a.off).Sublist ps) (hn : ps.Nodup) {i j : Nat} (hi : i < al.length) (hj : j < al.length) (hij : i ≠ j) : al[i] ≠ al[j] := by
  have h1 : (al.map fun a => MemPlace.cell a.block a.off).Nodup := hs.nodup hn
  intro e
  rw [List.Nodup, List.pairwise_iff_getElem] at h1
  rcases Nat.lt_or_gt_of_ne hij with h | h
  · exact h1 i j (by simpa using hi) (by simpa using hj) h (by simp [e])
  · exact h1 j i (by simpa using hj) (by simpa using hi) h (by simp [e])
end Er
end Go.Proofs.YtjndahjfodnllaaGreatDoor


namespace Go.Proofs.YtjndahjfodnllaaGreatDoor
open Go.ChangeShapes Go.WideShapes Go.ChangeAt Go.RowKit
namespace Ve
theorem etName : Tryz.prog.globalNamed "errors.errorType" = some 10 := by kernel_rfl
def rtWord : String := match (Rows.laid_errors_errorType : DataW Unit) with | .iface s _ => s | _ => ""
theorem rtName : (Tryz.prog.cutTypes.find? (·.1 == rtWord)).map (·.2) = some 215 := by kernel_rfl
theorem oneRow : ((List.range 321).filter fun t => Tryz.prog.rowNamed t [101, 114, 114, 111, 114]) = [29] := by kernel_rfl
theorem nTypes : Tryz.prog.types.size = 321 := by kernel_rfl
theorem cellsS : Tryz.prog.cellsOf 310 = 1 := by kernel_rfl
theorem cellsStr : Tryz.prog.cellsOf 9 = 1 := by kernel_rfl
theorem star : "*" ++ "errors.errorString" = "*errors.errorString" := by decide
theorem rowS (u : TypeId) (h : Tryz.prog.typeName? 3 u = some "*errors.errorString") : u = 292 :=
  typeName_ptr_named (nm := "errors.errorString") (by rw [star]; kernel_rfl) (by kernel_rfl) (by decide) u (by rw [star]; exact h)
theorem gPt : (Tryz.prog.globals[(14 : Nat)]?).map (·.type) = some 288 := by kernel_rfl
theorem cellsU : Tryz.prog.cellsOf 144 = 1 := by kernel_rfl
theorem cellsPow : Tryz.prog.cellsOf 288 = 20 := by kernel_rfl
def tens : List (String × Nat × List UInt8) :=
  [("pewholder/api.ErrText", 2, [112, 101, 119, 104, 111, 108, 100, 101, 114, 58, 32, 116, 101, 120, 116]),
   ("pewholder/api.ErrBound", 3, [112, 101, 119, 104, 111, 108, 100, 101, 114, 58, 32, 98, 111, 117, 110, 100]),
   ("pewholder/api.ErrShape", 5, [112, 101, 119, 104, 111, 108, 100, 101, 114, 58, 32, 115, 104, 97, 112, 101]),
   ("pewholder/api.ErrMajor", 4, [112, 101, 119, 104, 111, 108, 100, 101, 114, 58, 32, 109, 97, 106, 111, 114]),
   ("pewholder/api.ErrNone", 0, [112, 101, 119, 104, 111, 108, 100, 101, 114, 58, 32, 110, 111, 110, 101]),
   ("pewholder/api.ErrExist", 6, [112, 101, 119, 104, 111, 108, 100, 101, 114, 58, 32, 101, 120, 105, 115, 116]),
   ("pewholder/api.ErrFull", 1, [112, 101, 119, 104, 111, 108, 100, 101, 114, 58, 32, 102, 117, 108, 108]),
   ("pewholder/api.ErrOrder", 7, [112, 101, 119, 104, 111, 108, 100, 101, 114, 58, 32, 111, 114, 100, 101, 114]),
   ("pewholder/api.ErrClash", 8, [112, 101, 119, 104, 111, 108, 100, 101, 114, 58, 32, 99, 108, 97, 115, 104]),
   ("pewholder/api.ErrSum", 9, [112, 101, 119, 104, 111, 108, 100, 101, 114, 58, 32, 115, 117, 109])]
theorem tens_named : ∀ x, x ∈ tens → Tryz.prog.globalNamed x.1 = some x.2.1 ∧ (Tryz.prog.globals[x.2.1]?).map (·.type) = some 29 := by
  have h : (tens.all fun x => Tryz.prog.globalNamed x.1 == some x.2.1 && (Tryz.prog.globals[x.2.1]?).map (·.type) == some 29) = true := by kernel_rfl
  intro x hx
  simpa using List.all_eq_true.1 h x hx
theorem sen_of {W : World} (rest : List (String × DataW Unit)) (hl : laidMet Tryz.prog ((tens.map fun x => (x.1, DataW.iface "*errors.errorString" (.ptr (.agg [.lit (.string x.2.2)])))) ++ rest) W)
    (hh : handlesMet Tryz.prog [("errors.errorType", Rows.laid_errors_errorType)] W) : ∃ A, Er.Sen W A := by
  obtain ⟨ps, hl, hnd, hrows⟩ := hl
  obtain ⟨name, u, ty, e1, e2, e3, e4, e5⟩ := hh _ (List.mem_singleton.2 rfl)
  have en : name = [101, 114, 114, 111, 114] := (Option.some.inj e1).symm
  subst en
  obtain rfl := Option.some.inj (rtName.symm.trans e2)
  have hm : ty ∈ (List.range 321).filter fun t => Tryz.prog.rowNamed t [101, 114, 114, 111, 114] := List.mem_filter.2 ⟨List.mem_range.2 (by rw [← nTypes]; exact e3), e4⟩
  rw [oneRow] at hm
  obtain rfl := List.mem_singleton.1 hm
  have hhd : typeHandle Tryz.prog 29 = .pointer (some ⟨17, 29, none⟩) := by kernel_rfl
  rw [hhd] at e5
  have het : W.cell? ⟨10, 0, none⟩ = some (.iface 215 (.agg #[.pointer (some ⟨17, 29, none⟩)])) := by simpa using World.var?_cell etName e5 0
  obtain ⟨al, hlen, hsub, hall⟩ := Er.sens_rest Tryz.underlying29 rowS Tryz.underlying292 Tryz.underlying310 rfl rfl Tryz.underlying9 cellsS cellsStr rest tens ps hl tens_named hrows
  have hten : al.length = 10 := hlen
  refine ⟨fun k => al.getD k ⟨0, 0, none⟩, ?_⟩
  have get : ∀ k, k < 10 → al[k]? = some (al.getD k ⟨0, 0, none⟩) := fun k hk => by
    rw [List.getD_eq_getElem?_getD, List.getElem?_eq_getElem (by omega)]; rfl
  refine ⟨(hall 0 _ _ rfl (get 0 (by omega))).1, (hall 1 _ _ rfl (get 1 (by omega))).1, (hall 2 _ _ rfl (get 2 (by omega))).1, (hall 3 _ _ rfl (get 3 (by omega))).1, (hall 4 _ _ rfl (get 4 (by omega))).1, (hall 5 _ _ rfl (get 5 (by omega))).1, (hall 6 _ _ rfl (get 6 (by omega))).1, (hall 7 _ _ rfl (get 7 (by omega))).1, (hall 8 _ _ rfl (get 8 (by omega))).1, (hall 9 _ _ rfl (get 9 (by omega))).1, het, ?_, ?_⟩
  · intro k hk
    have hx : ∃ x, tens[k]? = some x := ⟨tens[k]'hk, List.getElem?_eq_getElem hk⟩
    obtain ⟨x, hx⟩ := hx
    exact (hall k x _ hx (get k hk)).2
  · intro i j hi hj hij
    have := Er.unlike hsub hnd (i := i) (j := j) (by omega) (by omega) hij
    intro e
    apply this
    have hi' := get i hi
    have hj' := get j hj
    rw [List.getElem?_eq_getElem (by omega)] at hi' hj'
    rw [Option.some.inj hi', Option.some.inj hj']
    exact e
theorem ml_of {W : World} (hsh : W.ShapedOpen Tryz.prog) : ∃ m, W.cell? ⟨11, 0, none⟩ = some (.int .i64 m) :=
  cell_of_shapedOpen_int (P := Tryz.prog) (g := 11) (t := 3) (zero := #[.int .i64 0]) hsh (of_decide_eq_true (by kernel_rfl)) (by kernel_rfl) rfl (by kernel_rfl) (by kernel_rfl) Tryz.underlying3
end Ve
end Go.Proofs.YtjndahjfodnllaaGreatDoor
