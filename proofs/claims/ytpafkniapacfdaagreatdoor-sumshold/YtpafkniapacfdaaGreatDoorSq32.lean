
import Derived.Test.YtpafkniapacfdaaGreatDoorSq31
import Derived.Test.YtpafkniapacfdaaGreatDoorSq28
import Derived.Test.YtpafkniapacfdaaGreatDoorSq30
import Derived.Test.YtpafkniapacfdaaGreatDoorSq27
import Derived.Deep.RegionHeldLaw
import Derived.Deep.AppendLies
namespace Go.Proofs.YtpafkniapacfdaaGreatDoor
open Go.RowKit
namespace Ve
def badM (m : Bm) : Bool := decide (mErr m ≠ 0)
def rightL (D : List Bm) : List Bm := D.filter fun m => !badM m
theorem rightL_mem {D : List Bm} {m : Bm} : m ∈ rightL D ↔ m ∈ D ∧ mErr m = 0 := by
  unfold rightL
  rw [List.mem_filter]
  simp [badM]
set_option maxHeartbeats 1000000 in
theorem rightK_any (m : Bm) (A : Nat → Addr) (ml : Int) (W : World) (hp : m.1.size < 999999) (hv : m.2.size < 999999) (S : Te W A ml) :
    Calls Tryz.prog 101 (#[.agg #[.string m.1, .string m.2]] ++ #[]) W fun e w' => e = .returned (.bool (badM m)) ∧ Below W.heap.size W w' := by
  obtain ⟨p, v⟩ := m
  simp only at hp hv
  show Calls Tryz.prog 101 #[.agg #[.string p, .string v]] W _
  have HB0 := hid ((Below.refl W.heap.size W).alloc (Nat.le_refl _) (.cells #[.string p, .string v] 42))
  have HM := hid (mcheck_any p v A ml _ (by omega) (by omega) (S.below HB0.out))
  have hme : mErr (p, v) = modErr p.data.toList v.data.toList := rfl
  rw [← hme] at HM
  clear S hme
  by_cases h : mErr (p, v) = 0
  · have HD := hid (show badM (p, v) = false by unfold badM; simp [h])
    rw [h, errA0] at HM
    generalize badM (p, v) = z at *
    clear h
    go_enter Tryz.func101, Tryz.ntmps101
    go_wp2_with fail
    refine HM.out.mono ?_
    rintro e w1 ⟨rfl, hb⟩
    have HB := hid (HB0.out.trans (hb.mono HB0.out.size))
    clear hb
    go_wp2_with fail
    go_ret
    exact ⟨ret_bool HD.out.symm, HB.out⟩
  · have HD := hid (show badM (p, v) = true by unfold badM; simp [h])
    rw [errA_if A h] at HM
    generalize badM (p, v) = z at *
    clear h
    go_enter Tryz.func101, Tryz.ntmps101
    go_wp2_with fail
    refine HM.out.mono ?_
    rintro e w1 ⟨rfl, hb⟩
    have HB := hid (HB0.out.trans (hb.mono HB0.out.size))
    clear hb
    go_wp2_with fail
    go_ret
    exact ⟨ret_bool HD.out.symm, HB.out⟩
theorem rightL_take {D : List Bm} {k : Nat} (hk : k < D.length) : rightL (D.take (k + 1)) = if badM D[k] then rightL (D.take k) else rightL (D.take k) ++ [D[k]] := by
  unfold rightL
  rw [List.take_succ_eq_append_getElem hk, List.filter_append]
  cases h : badM D[k] <;> simp [h]
theorem rightL_first {D : List Bm} {k : Nat} (hk : k < D.length) (h1 : badM D[k] = true) (h2 : ∀ j (hj : j < D.length), j < k → badM D[j] = false) : rightL (D.take (k + 1)) = D.take k := by
  rw [rightL_take hk, if_pos h1]
  unfold rightL
  rw [List.filter_eq_self]
  intro x hx
  obtain ⟨i, hi, him, rfl⟩ := mem_take_at hx
  rw [h2 i hi him]; rfl
theorem rightL_all {D : List Bm} (h : ∀ x, x ∈ D → badM x = false) : rightL D = D := by
  unfold rightL
  rw [List.filter_eq_self]
  intro x hx
  rw [h x hx]; rfl
set_option maxRecDepth 100000 in
set_option maxHeartbeats 8000000 in
theorem del_mw (w0 w : World) (g cap : Nat) (D : List Bm) (A : Nat → Addr) (ml : Int) (S : Te w0 A ml) (h12 : D.length ≤ 1000000) (hc : D.length ≤ cap) (hz : ∀ r, r ∈ D → r.1.size < 999999 ∧ r.2.size < 999999) (hR : Mw w0 w g D) :
    Calls Tryz.prog 99 #[.slice (some ⟨g, 0, none⟩) D.length cap, .func (.func 101) #[] #[]] w fun e w' => e = .returned (.slice (some ⟨g, 0, none⟩) (rightL D).length cap) ∧ Mw w0 w' g (rightL D) := by
  have eg : ∀ args w, (callFunc 101 args).run Tryz.prog w = .ok (.enter 101 args) w := enters_of Tryz.func101 (by kernel_rfl) rfl
  have HRK := hid (fun (m : Bm) (hm : m ∈ D) W (hW : Below w0.heap.size w0 W) => rightK_any m A ml W (hz m hm).1 (hz m hm).2 (S.below hW))
  have HI := hid (idxM_any 101 #[] badM D _ w eg h12 (hR.ms hc) (fun i hi W hW => HRK.out D[i] (List.getElem_mem hi) W (hR.bl.trans (hW.mono hR.bl.size))))
  have HR := hid hR
  clear hR S hz
  rcases idxB_kind badM D with ⟨e1, h2⟩ | ⟨k, hk, e1, h2, h3⟩
  · rw [e1] at HI
    rw [rightL_all h2]
    clear e1 h2
    go_enter Tryz.func99, Tryz.ntmps99
    go_wp2_with fail
    refine HI.out.mono ?_
    rintro e w1 ⟨rfl, hb⟩
    have HR1 := hid (HR.out.below hb)
    clear hb
    go_wp2_with fail
    go_ret
    exact ⟨rfl, HR1.out⟩
  · rw [e1] at HI
    have HF := hid (rightL_first hk h2 h3)
    have hkn : ¬ (k : Int) = -1 := by omega
    have hk1 : (k : Int) < (D.length : Int) := by omega
    clear e1 h2 h3
    go_enter Tryz.func99, Tryz.ntmps99
    go_wp2_with fail
    refine HI.out.mono ?_
    rintro e w1 ⟨rfl, hb⟩
    have HR1 := hid (HR.out.below hb)
    clear hb
    go_wp2_with fail
    go_loopw [5, 6] (fun a b wr => ∃ (j : Nat), a = .int .i64 ((rightL (D.take j)).length : Int) ∧ b = .int .i64 (j : Int) ∧ j ≤ D.length ∧ (rightL (D.take j)).length < j ∧ Hid (Mw w0 wr g (rightL (D.take j) ++ D.drop (rightL (D.take j)).length))) (fun _ b _ => D.length - (intOf b).toNat)
    case atStart =>
      have hl : (D.take k).length = k := by simp; omega
      exact ⟨k + 1, by rw [HF.out, hl], by go_num, by omega, by rw [HF.out, hl]; omega, hid (by rw [HF.out, hl, List.take_append_drop]; exact HR1.out)⟩
    case round =>
      obtain ⟨j, rfl, rfl, hjD, hEj, HRV⟩ := hrel
      have HAT := hid (show ∀ i, (rightL (D.take j)).length ≤ i → (rightL (D.take j) ++ D.drop (rightL (D.take j)).length)[i]? = D[i]? from fun i hi => by rw [List.getElem?_append_right hi, List.getElem?_drop]; congr 1; omega)
      by_cases hj : j < D.length
      · have g1 : (j : Int) < (D.length : Int) := by omega
        have HT := hid (rightL_take hj)
        obtain ⟨y0, y1⟩ := HRV.out.at (j := j) (r := D[j]) (by rw [HAT.out j (by omega)]; exact List.getElem?_eq_getElem hj)
        have HKX := hid (fun W (hW : Below w0.heap.size w0 W) => (show Calls Tryz.prog 101 #[.agg #[.string D[j].1, .string D[j].2]] W fun e w' => e = .returned (.bool (badM D[j])) ∧ Below W.heap.size W w' from HRK.out D[j] (List.getElem_mem hj) W hW))
        generalize D[j] = x at *
        generalize hE : rightL (D.take j) = E at *
        obtain ⟨x1, x2⟩ := x
        have HBA := hid ((Below.refl wr.heap.size wr).alloc (Nat.le_refl _) (.cells #[.string x1, .string x2] 42))
        have HRA := hid (HRV.out.below HBA.out)
        have HP := hid (HKX.out _ HRA.out.bl)
        cases hbad : badM (x1, x2)
        · rw [hbad] at HP HT
          have HT2 := hid (show rightL (D.take (j + 1)) = E ++ [(x1, x2)] from HT.out)
          clear hbad
          go_wp2_with fail
          refine HP.out.mono ?_
          rintro e w2 ⟨rfl, hb⟩
          have HR2 := hid (HRA.out.below hb)
          have d0 : w2.cell? ⟨wr.heap.size, 0, none⟩ = some (.string x1) := cell_below hb (by simp)
          have d1 : w2.cell? ⟨wr.heap.size, 1, none⟩ = some (.string x2) := cell_below hb (by simp)
          have hfz := HR2.out.fz
          have e1 : (0 : Int) ≤ (E.length : Int) := by omega
          have e2 : (E.length : Int) < (D.length : Int) := by omega
          have hEl : E.length < (E ++ D.drop E.length).length := by simp; omega
          obtain ⟨z0, z1⟩ := HR2.out.at (j := E.length) (r := (E ++ D.drop E.length)[E.length]) (List.getElem?_eq_getElem hEl)
          have HW4 := hid (show Mw w0 ((w2.setCell ⟨g, E.length * 2, none⟩ (.string x1)).setCell ⟨g, E.length * 2 + 1, none⟩ (.string x2)) g ((E ++ [((x1, x2) : Bm)]) ++ D.drop (E ++ [((x1, x2) : Bm)]).length) by
            have h := HR2.out.setAt E.length hEl (x1, x2)
            have e : (E ++ D.drop E.length).set E.length (x1, x2) = (E ++ [((x1, x2) : Bm)]) ++ D.drop (E ++ [((x1, x2) : Bm)]).length := by
              rw [List.set_append_right _ _ (Nat.le_refl _), Nat.sub_self, List.drop_eq_getElem_cons (show E.length < D.length by omega), List.set_cons_zero, List.length_append]
              simp
            rw [e] at h
            exact h)
          clear hb y0 y1
          go_wp2_with fail
          go_roundw
          case rel =>
            repeat apply Exists.intro
            refine ⟨?r, rfl⟩
            exact ⟨j + 1, by rw [HT2.out]; first | (simp; done) | (rw [List.length_append]; go_num), by go_num, by omega, by rw [HT2.out]; simp; omega, hid (by rw [HT2.out]; exact HW4.out)⟩
          case measure => simp [intOf]; omega
        · rw [hbad] at HP HT
          have HT2 := hid (show rightL (D.take (j + 1)) = E from HT.out)
          clear hbad
          go_wp2_with fail
          refine HP.out.mono ?_
          rintro e w2 ⟨rfl, hb⟩
          have HR2 := hid (HRA.out.below hb)
          clear hb y0 y1
          go_wp2_with fail
          go_roundw
          case rel =>
            repeat apply Exists.intro
            refine ⟨?r2, rfl⟩
            exact ⟨j + 1, by rw [HT2.out], by go_num, by omega, by rw [HT2.out]; omega, hid (by rw [HT2.out]; exact HR2.out)⟩
          case measure => simp [intOf]; omega
      · obtain rfl : j = D.length := by omega
        have g2 : ¬ (D.length : Int) < (D.length : Int) := by omega
        rw [List.take_length] at hEj HRV HAT ⊢
        generalize hE : rightL D = E at *
        have hRl : (E ++ D.drop E.length).length = D.length := by simp; omega
        obtain ⟨zs, hcl⟩ := run_clear_mw HRV.out E.length (by omega)
        rw [hRl] at hcl
        have HRE := hid (show Mw w0 (wr.setCells g (E.length * 2) zs) g E by
          have := HRV.out.cleared E.length (by omega) zs
          rw [List.take_left' rfl] at this
          exact this)
        have c1 : (E.length : Int) ≤ (D.length : Int) := by omega
        have c2 : (E.length : Int) < (cap : Int) := by omega
        have c3 : (E.length : Int) ≤ (cap : Int) := by omega
        have c4 : (0 : Int) ≤ (E.length : Int) := by omega
        have c5 : E.length < cap := by omega
        have c6 : (D.length : Int) ≤ (cap : Int) := by omega
        go_wp2_with fail
        go_ret
        exact ⟨rfl, HRE.out⟩
end Ve
end Go.Proofs.YtpafkniapacfdaaGreatDoor


namespace Go.Proofs.YtpafkniapacfdaaGreatDoor
open Go.RowKit
namespace Ve
def entQ (Q : List Raw) (L : List Ent) (m : Bm) : Ent := (L[(idxOf (isM m) Q).toNat]?).getD ((⟨#[]⟩, ⟨#[]⟩), [], [], false)
def sumL (Q : List Raw) (L : List Ent) (sel : List Bm) : List Ln := sel.map fun m => (m, sumE (entQ Q L m))
def allX (Q : List Raw) (L : List Ent) (sel : List Bm) : List Ln := if (chkG Q L sel).1 = 0 then sumL Q L sel else []
theorem entQ_at {Q : List Raw} {L : List Ent} {m : Bm} {k : Nat} (h : idxOf (isM m) Q = (k : Int)) (hk : k < L.length) : entQ Q L m = L[k] := by
  unfold entQ
  rw [h, Int.toNat_natCast, List.getElem?_eq_getElem hk]; rfl
theorem sumL_next {Q : List Raw} {L : List Ent} {E : List Bm} {k : Nat} (h : k < E.length) : sumL Q L (E.take (k + 1)) = sumL Q L (E.take k) ++ [(E[k], sumE (entQ Q L E[k]))] := by
  unfold sumL
  rw [List.take_succ_eq_append_getElem h, List.map_append]; rfl
theorem sumL_len (Q : List Raw) (L : List Ent) (E : List Bm) : (sumL Q L E).length = E.length := by unfold sumL; rw [List.length_map]
theorem ent_at {W : World} {b o n c : Nat} {Q : List Raw} {L : List Ent} (I : Ixs W (.slice (some ⟨b, o, none⟩) n c) Q L) {k : Nat} (hk : k < Q.length) (hk' : k < L.length) : ∃ ra rc pa pc, W.cell? ⟨b, o + k * 5, none⟩ = some (.string L[k].1.1) ∧ W.cell? ⟨b, o + k * 5 + 1, none⟩ = some (.string L[k].1.2) ∧
    W.cell? ⟨b, o + k * 5 + 2, none⟩ = some (.slice ra L[k].2.1.length rc) ∧ W.cell? ⟨b, o + k * 5 + 3, none⟩ = some (.slice pa L[k].2.2.1.length pc) ∧ W.cell? ⟨b, o + k * 5 + 4, none⟩ = some (.bool L[k].2.2.2) ∧ MsAt W (.slice ra L[k].2.1.length rc) L[k].2.1 ∧ TxAt W (.slice pa L[k].2.2.1.length pc) L[k].2.2.1 := by
  obtain ⟨-, x0, x1, x2, x3, x4⟩ := es_all I.es hk
  have ok := I.ok k hk hk'
  obtain ⟨ra, rc, hr, -⟩ := id ok.rq
  obtain ⟨pa, pc, hp, -⟩ := id ok.pk
  have hrq := ok.rq
  have hpk := ok.pk
  rw [hr] at x2 hrq
  rw [hp] at x3 hpk
  rw [ok.m] at x0 x1
  rw [ok.bk] at x4
  exact ⟨ra, rc, pa, pc, x0, x1, x2, x3, x4, hrq, hpk⟩
theorem keep_growX {W3 W4 : World} {o : Obj} {b i : Nat} {row : Option Nat} {x : Value} (hg : (W3.alloc o).grownBy W4 row) (hne : some b ≠ row) (hc : W3.cell? ⟨b, i, none⟩ = some x) : W4.cell? ⟨b, i, none⟩ = some x := by
  have hb : b < W3.heap.size := lt_of_cell hc
  have hl : b < (W3.alloc o).heap.size := by simp; omega
  have h1 := ((Below.refl W3.heap.size W3).alloc (Nat.le_refl _) o).block b hb
  have h2 := hg.block b hl hne
  rw [World.cell?_of_block h2, World.cell?_of_block h1]; exact hc
theorem rel_app3 {B : Nat} {w wr w2 w3 : World} {e : TypeId} {v : Value} {n : Nat} {xs : List Value} {o : Obj} (hB : B ≤ wr.heap.size) (hb : Below B w wr) (hown : wr.ownsRow B e 3 v n xs) (hb2 : Below wr.heap.size wr w2)
    (hg : (w2.alloc o).grownBy w3 v.ownBlock) : Below B w w3 := by
  have h2 : Below B w w2 := hb.trans (hb2.mono hB)
  have h3 : Below B w (w2.alloc o) := h2.alloc (Nat.le_trans hB hb2.size) o
  exact h3.grown hg (Nat.le_trans hB (Nat.le_trans hb2.size (by simp))) (fun k hk => (hown.lt k hk).1)
theorem box2S {W : World} {g : Nat} {x y : Value} {T : TypeId} (h : W.heap[g]? = some (.cells #[x, y] T (0, 0))) : W.cell? ⟨g, 0, none⟩ = some x ∧ W.cell? ⟨g, 1, none⟩ = some y ∧ ∀ o, W.frozen? ⟨g, o, none⟩ = false :=
  ⟨by rw [Lib.cell_of_heap h]; rfl, by rw [Lib.cell_of_heap h]; rfl, fun o => Lib.frozen_of_heap h o⟩
theorem codeG_fine {E : Nat → Nat} {n : Nat} (h : codeE E n = 0) : fstE E n = none := by
  cases hf : fstE E n with
  | none => rfl
  | some i => rw [codeE_some hf] at h; exact absurd h (fstE_of_some hf).2.1
set_option maxRecDepth 100000 in
set_option maxHeartbeats 4000000 in
theorem all_good (Q : List Raw) (L : List Ent) (sel : List Bm) (v u : Value) (A : Nat → Addr) (m : Int) (w : World) (hL : L.length ≤ 1000) (hR : sel.length ≤ 1000) (sh : ∀ e, e ∈ L → ShE e) (ok : ∀ e, e ∈ L → OkE e) (S : Te w A m) (I : Ixs w v Q L) (hu : MsAt w u sel)
    (h0 : (chk Q L).1 = 0) (h1 : codeE (nonE Q sel) sel.length = 0) :
    Calls Tryz.prog 11 #[v, u] w fun e w' => ∃ x, e = .returned (.tuple #[x, .nilIface]) ∧ w'.ownsRow w.heap.size 44 3 x (sumL Q L sel).length (flatN .u32 (sumL Q L sel)) ∧ Below w.heap.size w w' := by
  obtain ⟨i0, hi0, hz0, hz1, hz2⟩ := info_parts infoLine
  have HIC := hid (icheck_any Q L v A m w (by omega) sh S I)
  have HCM := hid (fun W (h : Below w.heap.size w W) => cmods_any Q sel v u A m W (by rw [I.ln]; omega) (by omega) (S.below h) (I.es.below h) (hu.below h))
  have HFI := hid (fun m W (h : Below w.heap.size w W) => find_any Q m v W (by rw [I.ln]; omega) (I.es.below h))
  have HKM := hid (fun j (hj : j < sel.length) => (found_iff I sel[j]).1 (nonE_found I h1 _ (List.getElem_mem hj)))
  have HS := hid S
  have HI := hid I
  have HOK := hid ok
  have HMU := hid (fun W (h : Below w.heap.size w W) => hu.below h)
  have HRR := hid hR
  rw [h0] at HIC
  rw [h1, codeG_fine h1] at HCM
  obtain ⟨va, vc, hv1, -⟩ := id I.es
  subst hv1
  obtain ⟨ua, uc, hu1, -⟩ := id hu
  subst hu1
  have HQL := hid I.ln
  clear I hu S sh ok h0 h1 hL
  go_enter Tryz.func11, Tryz.ntmps11
  go_wp2_with fail
  refine HIC.out.mono ?_
  rintro e w1 ⟨x, rfl, hx, hb⟩
  obtain rfl := errAt_nilS hx
  have HB1 := hid hb
  clear hb hx
  go_wp2_with fail
  refine (HCM.out _ HB1.out).mono ?_
  rintro e w2 ⟨x, rfl, hx, hb⟩
  obtain rfl := errAt_nilS hx
  have HB2 := hid (HB1.out.trans (hb.mono HB1.out.size))
  clear hb hx
  go_wp2_with fail
  go_loopw [8, 24] (fun ov iv wr => ∃ i : Nat, i ≤ sel.length ∧ iv = .int .i64 i ∧ Hid (wr.ownsRow w.heap.size 44 3 ov (sumL Q L (sel.take i)).length (flatN .u32 (sumL Q L (sel.take i)))) ∧ Hid (Below w.heap.size w wr)) (fun _ iv _ => sel.length - (intOf iv).toNat)
  case atStart => exact ⟨0, Nat.zero_le _, rfl, hid (World.ownsRow_nil _ _ _ _), HB2⟩
  case round =>
    obtain ⟨i, hi, rfl, HOW, HBr⟩ := hrel
    by_cases hlt : i < sel.length
    · have hiI := ix_lt hlt
      have hii := ix_pos i
      obtain ⟨xb, xo, hxa, y0, y1⟩ := (HMU.out _ HBr.out).cells hlt
      subst hxa
      obtain ⟨k, hk⟩ := HKM.out i hlt
      obtain ⟨hkQ, -⟩ := idx_is hk
      have hkL : k < L.length := by rw [← HQL.out]; exact hkQ
      have HST := hid (sumL_next (Q := Q) (L := L) hlt)
      rw [entQ_at hk hkL] at HST
      have HSL := hid (show (sumL Q L (sel.take i)).length ≤ 1000 by rw [sumL_len, List.length_take]; omega)
      have hiw := HI.out.below (show Below w.heap.size w wr from HBr.out)
      obtain ⟨eb, eo, hea⟩ : ∃ b o, va = some ⟨b, o, none⟩ := by
        obtain ⟨a', c', e, _, _, h⟩ := hiw.es
        injection e with q1 q2 q3
        obtain ⟨b, o, h4, _⟩ := h (fun h => by rw [h] at hkQ; simp at hkQ)
        exact ⟨b, o, by rw [q1, h4]⟩
      subst hea
      obtain ⟨ra, rc, pa, pc, z0, z1, z2, z3, z4, hrq, hpk⟩ := ent_at HI.out hkQ hkL
      have HOF := hid (fun W (h : Below w.heap.size w W) => of_any L[k] ra rc pa pc A m W (HS.out.below h) (HOK.out _ (List.getElem_mem hkL)) (hrq.below h) (hpk.below h))
      have HFI2 := hid (fun W h => HFI.out sel[i] W h)
      rw [hk] at HFI2
      have hebw : eb < w.heap.size := lt_of_cell z0
      clear hiw hrq hpk hk HKM HFI HIC HCM
      generalize sumE L[k] = sm at *
      generalize L[k] = e at *
      obtain ⟨⟨ep, eq⟩, eR, eP, ek⟩ := e
      generalize sel[i] = x at *
      obtain ⟨p, q⟩ := x
      dsimp only at y0 y1 z0 z1 z2 z3 z4 HOF HFI2 HST
      obtain ⟨SX, hSX⟩ : ∃ SX, sumL Q L (sel.take i) = SX := ⟨_, rfl⟩
      rw [hSX] at HOW HST HSL
      have HLI := hid hlt
      clear hSX hlt
      have HAl := hid ((Below.refl wr.heap.size wr).alloc (Nat.le_refl _) (.cells #[.string p, .string q] 42))
      have HBa := hid (HBr.out.trans (HAl.out.mono HBr.out.size))
      have HM0 := hid (heap_alloc_new wr (.cells #[.string p, .string q] 42))
      have HOa := hid (HOW.out.alloc (.cells #[.string p, .string q] 42))
      have HNE := hid (show some wr.heap.size ≠ u8.ownBlock from fun h => Nat.lt_irrefl _ (HOW.out.lt _ h.symm).2)
      have HNF := hid (show some eb ≠ u8.ownBlock from fun h => absurd (HOW.out.lt _ h.symm).1 (by omega))
      go_wp2_with fail
      obtain ⟨wa, hwa⟩ : ∃ wa, wr.alloc (.cells #[.string p, .string q] 42) = wa := ⟨_, rfl⟩
      rw [hwa] at HAl HBa HM0 HOa ⊢
      clear hwa
      obtain ⟨m0, m1, mf⟩ := box2S HM0.out
      have HW := hid (fun W' (hW : Below wa.heap.size wa W') => HBa.out.trans (hW.mono HBa.out.size))
      have HT := hid (fun W' (hW : Below wa.heap.size wa W') => (show (fun W' => W'.cell? ⟨wr.heap.size, 0, none⟩ = some (.string p) ∧ W'.cell? ⟨wr.heap.size, 1, none⟩ = some (.string q) ∧ W'.cell? ⟨eb, eo + k * 5, none⟩ = some (.string ep) ∧ W'.cell? ⟨eb, eo + k * 5 + 1, none⟩ = some (.string eq) ∧ W'.cell? ⟨eb, eo + k * 5 + 2, none⟩ = some (.slice ra eR.length rc) ∧ W'.cell? ⟨eb, eo + k * 5 + 3, none⟩ = some (.slice pa eP.length pc) ∧ W'.cell? ⟨eb, eo + k * 5 + 4, none⟩ = some (.bool ek)) W' from
        let B := HBa.out.trans (hW.mono HBa.out.size)
        ⟨cell_below hW m0, cell_below hW m1, cell_below B z0, cell_below B z1, cell_below B z2, cell_below B z3, cell_below B z4⟩))
      clear m0 m1 mf y0 y1 z0 z1 z2 z3 z4
      have hk0 := ix_pos k
      have hkI : (k : Int) < (Q.length : Int) := by omega
      go_region_held_law (fun W' => W'.cell? ⟨wr.heap.size, 0, none⟩ = some (.string p) ∧ W'.cell? ⟨wr.heap.size, 1, none⟩ = some (.string q) ∧ W'.cell? ⟨eb, eo + k * 5, none⟩ = some (.string ep) ∧ W'.cell? ⟨eb, eo + k * 5 + 1, none⟩ = some (.string eq) ∧ W'.cell? ⟨eb, eo + k * 5 + 2, none⟩ = some (.slice ra eR.length rc) ∧ W'.cell? ⟨eb, eo + k * 5 + 3, none⟩ = some (.slice pa eP.length pc) ∧ W'.cell? ⟨eb, eo + k * 5 + 4, none⟩ = some (.bool ek)) (first | exact (let ⟨t0, t1, t2, t3, t4, t5, t6⟩ := HT.out _ HRa.out; ⟨keep_growX HR9.out HNE.out t0, keep_growX HR9.out HNE.out t1, keep_growX HR9.out HNF.out t2, keep_growX HR9.out HNF.out t3, keep_growX HR9.out HNF.out t4, keep_growX HR9.out HNF.out t5, keep_growX HR9.out HNF.out t6⟩) | exact HT.out _ (HRa.out.alloc HRa.out.size _) | exact HT.out _ HRa.out | exact HT.out _ (below_drawn _ 1)) (first
        | (go_at_call 30; refine (HFI2.out _ (HW.out _ (below_drawn _ 1))).mono ?_; rintro e w3 ⟨rfl, hb⟩; have HRa := hid ((below_drawn wa 1).trans (hb.mono (Nat.le_refl _))); clear hb)
        | (go_at_call 16; refine (HOF.out _ (HW.out _ HRa.out)).mono ?_; rintro e w3 ⟨rfl, hb⟩; have HRa := hid (HRa.out.trans (hb.mono HRa.out.size)); clear hb)
        | (refine step_append_lies _ (by rfl) _ _ 34 (by rfl) w.heap.size 44 i0 _ 3 40 Tryz.underlying34 hi0 hz0 hz1 hz2 rfl (by decide) _ _ _ (by rfl) ((owns_below HOa.out HRa.out).alloc _) ⟨w3.heap.size, 0, none⟩ 1 1 [.string p, .string q, .int .u32 (sm : Nat)] (by rfl) rfl (World.news_of_block (heap_alloc_new _ _)) (by intro u hu; simp at hu; rcases hu with rfl | rfl | rfl <;> rfl) (by decide) (Nat.le_trans (Nat.add_le_add_right HSL.out 1) (by unfold maxLen; decide)) (by have := HSL.out; omega) (Nat.le_trans (HW.out _ HRa.out).size (by simp)) (w3.heap.size + 1) (by simp) ?_; intro g cap w4 hown hgrow hat hlt2; have HR9 := hid hgrow))
      all_goals
        have HB4 := hid (rel_app3 HBa.out.size HBa.out HOa.out HRa.out hgrow)
        have HO4 := hid (show w4.ownsRow w.heap.size 44 3 (.slice (some ⟨g, 0, none⟩) (SX.length + 1) cap) (SX ++ [((p, q), sm)]).length (flatN .u32 (SX ++ [((p, q), sm)])) by rw [flatN_snoc, List.length_append]; exact hown)
        clear hown hgrow hat hlt2 HR9
        go_wp2_with fail
        go_roundw
        case rel => first | exact ⟨i + 1, HLI.out, nr_idx i, hid (by rw [HST.out]; exact HO4.out), HB4⟩ | exact ⟨i + 1, HLI.out, nx_idx HLI.out (by omega), hid (by rw [HST.out]; exact HO4.out), HB4⟩
        case measure => first | exact nr_meas HLI.out | exact nx_meas HLI.out (by omega)
    · have hiI := ix_nlt hlt
      have HTA := hid (show sel.take i = sel from List.take_of_length_le (by omega))
      rw [HTA.out] at HOW
      clear hlt
      go_wp2_with fail
      go_ret2
      exact ⟨_, rfl, HOW.out, HBr.out⟩
end Ve
end Go.Proofs.YtpafkniapacfdaaGreatDoor


namespace Go.Proofs.YtpafkniapacfdaaGreatDoor
open Go.RowKit Go.Shelf Go.Sort
namespace Ve
theorem rdT_short {t : List UInt8} {n : Nat} (h : t.length ≤ n) (hn : n < 999999) : (rdT t).2.1.1.size < 999999 ∧ (rdT t).2.1.2.size < 999999 := by
  have h0 : ln0.1.1.size < 999999 ∧ ln0.1.2.size < 999999 := by decide
  unfold rdT
  split
  · have hd : t.dropLast.length ≤ n := by simp; omega
    have hc := cutAt_le 32 t.dropLast
    generalize cutAt 32 t.dropLast = W at *
    match W, hc with
    | [], _ => exact h0
    | [_], _ => exact h0
    | [_, _], _ => exact h0
    | [a, b, c], hc =>
      have h1 := hc a (by simp)
      have h2 := hc b (by simp)
      unfold rdW
      dsimp only
      split
      · exact ⟨by show (bt a).size < 999999; rw [← len_eq, bt_list]; omega, by show (bt b).size < 999999; rw [← len_eq, bt_list]; omega⟩
      · exact h0
    | _ :: _ :: _ :: _ :: _, _ => exact h0
  · exact h0
def lnOf (T : List (List UInt8)) : List Ln := T.map fun t => (rdT t).2
theorem lnOf_next {T : List (List UInt8)} {k : Nat} (h : k < T.length) : lnOf (T.take (k + 1)) = lnOf (T.take k) ++ [(rdT T[k]).2] := by
  unfold lnOf
  rw [List.take_succ_eq_append_getElem h, List.map_append]; rfl
theorem lnEr_bad {T : List (List UInt8)} {k : Nat} (h : k < T.length) (h1 : (rdT T[k]).1 ≠ 0) : lnEr T k = (rdT T[k]).1 := by
  unfold lnEr
  rw [List.getElem?_eq_getElem h]
  dsimp only
  rw [if_pos h1]
theorem prev_take (L : List Bm) (k : Nat) : prevOf (L.take (k + 1)) k = prevOf L k := by
  unfold prevOf
  split
  · rfl
  · rw [List.getElem?_take, if_pos (by omega)]
theorem lnEr_ok {T : List (List UInt8)} {k : Nat} (h : k < T.length) (h1 : (rdT T[k]).1 = 0) : lnEr T k = txE (lnOf (T.take k) ++ [(rdT T[k]).2]) k := by
  rw [← lnOf_next h]
  unfold lnEr txE exE lnOf
  rw [List.getElem?_eq_getElem h]
  dsimp only
  rw [if_neg (by rw [h1]; simp), List.map_map, List.map_take, List.getElem?_take, if_pos (by omega), List.getElem?_map, List.getElem?_eq_getElem h]
  show _ = exW (prevOf ((T.map fun t => (rdT t).2.1).take (k + 1)) k) (rdT T[k]).2.1
  rw [prev_take]
theorem rdX_ok {T : List (List UInt8)} (h : fstE (lnEr T) T.length = none) : rdX T = lnOf T ∧ rdF T = (0, none) := by
  have hf : rdF T = (0, none) := Prod.ext (codeE_none h) h
  exact ⟨by unfold rdX; rw [if_pos (by rw [hf])]; rfl, hf⟩
theorem rdX_bad {T : List (List UInt8)} (h : (rdF T).1 ≠ 0) : rdX T = [] := by unfold rdX; rw [if_neg h]
theorem lnOf_len (T : List (List UInt8)) : (lnOf T).length = T.length := by unfold lnOf; rw [List.length_map]
theorem lnOf_short {T : List (List UInt8)} (h : ∀ t, t ∈ T → t.length ≤ 500000) : shortN (lnOf T) := by
  intro x hx
  unfold lnOf at hx
  obtain ⟨t, ht, rfl⟩ := List.mem_map.1 hx
  exact rdT_short (h t ht) (by decide)
theorem ownStr_cells {w : World} {g B : Nat} {T : List (List UInt8)} {cs : Array Value} (hct : cs.toList.take (T.length * 1) = T.map encStr) (hb : w.heap[g]? = some (.cells cs B (0, 0))) (j : Nat) (h : j < (T.map bt).length) : w.cell? ⟨g, j, none⟩ = some (.string (T.map bt)[j]) := by
  have hj : j < T.length := by simpa using h
  have h1 : (cs.toList.take (T.length * 1))[j]? = (T.map encStr)[j]? := by rw [hct]
  rw [List.getElem?_take, if_pos (by omega), List.getElem?_map, List.getElem?_eq_getElem hj] at h1
  simp only [World.cell?, hb]
  rw [← Array.getElem?_toList, h1]
  simp [encStr, bt]
set_option maxRecDepth 100000 in
set_option maxHeartbeats 2000000 in
theorem rfirst_any (T : List (List UInt8)) (A : Nat → Addr) (m : Int) (w W : World) (v : Value) (hT : T.length ≤ 500000) (hsz : ∀ t, t ∈ T → t.length ≤ 500000) (S : Te w A m) (R : Rg w) (HB : Below w.heap.size w W)
    (hbx : W.heap[w.heap.size]? = some (.cells #[.slice none 0 0] 34 (0, 0))) (hv : W.ownsRow (w.heap.size + 2) 9 1 v T.length (T.map encStr)) :
    Calls Tryz.prog 39 #[v, .func (.func 42) #[] #[.pointer (some ⟨w.heap.size, 0, none⟩)]] W fun e w' => ∃ y, e = .returned y ∧ ErrAt w' A y (rdF T).1 (rdF T).2 ∧ Below w.heap.size w w' ∧ ((rdF T).2 = none → ∃ u, w'.heap[w.heap.size]? = some (.cells #[u] 34 (0, 0)) ∧ w'.ownsRow w.heap.size 44 3 u (lnOf T).length (flatN .u32 (lnOf T))) := by
  obtain ⟨_, ⟨rfl, h0⟩ | ⟨g, cap, cur, rfl, hg, hblk, hcap, hcm, hcs, hct⟩⟩ := hv
  · have hT0 : T = [] := List.length_eq_zero_iff.1 h0
    subst hT0
    refine (firstT_none 42 #[.pointer (some ⟨w.heap.size, 0, none⟩)] none 0 W).mono ?_
    rintro e w' ⟨rfl, rfl⟩
    exact ⟨_, rfl, rfl, HB, fun _ => ⟨_, hbx, ⟨rfl, Or.inl ⟨rfl, rfl⟩⟩⟩⟩
  · have hXL : (T.map bt).length = T.length := by rw [List.length_map]
    have H0 : RdL w W w.heap.size g cur (.slice none 0 0) (lnOf (T.take 0)) := ⟨hbx, hblk, ⟨rfl, Or.inl ⟨rfl, rfl⟩⟩, HB⟩
    have HS := hid S
    have HR := hid R
    have HSH := hid (lnOf_short hsz)
    have hsz2 : ∀ (k : Nat) (h : k < T.length), (bt T[k]).size ≤ 1000000 ∧ (bt T[k]).data.toList = T[k] := fun k h => by
      have := hsz T[k] (List.getElem_mem h)
      exact ⟨by rw [← len_eq, bt_list]; omega, bt_list _⟩
    rw [show T.length = (T.map bt).length from hXL.symm]
    refine (first_txts 42 #[.pointer (some ⟨w.heap.size, 0, none⟩)] (lnEr T) (T.map bt) g cap (fun k V => ∃ v, RdL w V w.heap.size g cur v (lnOf (T.take k))) (Below w.heap.size w) A W (enters_of Tryz.func42 (by kernel_rfl) rfl) (by omega)
      (fun k V ⟨u, hu⟩ j h => ownStr_cells hct hu.tx j h) (fun k V ⟨u, hu⟩ => hu.bl) (fun V o h => h.alloc h.size o) ⟨_, H0⟩ ?_).mono ?_
    · rintro k hk V ⟨u, HI⟩
      have hk' : k < T.length := by omega
      rw [show (T.map bt)[k] = bt T[k] by simp]
      obtain ⟨hz1, hz2⟩ := hsz2 k hk'
      by_cases h1 : (rdT T[k]).1 = 0
      · have h2 := rdK_ok (bt T[k]) w V w.heap.size g cur u (lnOf (T.take k)) A m hz1 (by rw [lnOf_len, List.length_take]; omega) HS.out HR.out (Nat.le_refl _) (by omega) HI
          (by rw [hz2, ← lnOf_next hk']; intro x hx; exact HSH.out x (by unfold lnOf at hx ⊢; rw [List.map_take] at hx; exact List.mem_of_mem_take hx)) (by rw [hz2]; exact h1)
        rw [hz2, lnOf_len, List.length_take, Nat.min_eq_left (by omega), ← lnEr_ok hk' h1, ← lnOf_next hk'] at h2
        refine h2.mono ?_
        rintro e V' ⟨rfl, u', hu'⟩
        exact ⟨rfl, fun _ => ⟨u', hu'⟩, hu'.bl⟩
      · have h2 := rdK_bad k (bt T[k]) w V w.heap.size g cur u (lnOf (T.take k)) A m hz1 HS.out HR.out HI (by rw [hz2]; exact h1)
        rw [hz2] at h2
        rw [lnEr_bad hk' h1]
        refine h2.mono ?_
        rintro e V' ⟨rfl, hb⟩
        exact ⟨rfl, fun h => absurd h h1, hb⟩
    · rintro e V ⟨y, rfl, hy, hI, hJ⟩
      rw [hXL] at hy hI
      refine ⟨y, rfl, hy, hJ, fun h => ?_⟩
      obtain ⟨u, hu⟩ := hI h
      rw [List.take_length] at hu
      exact ⟨u, hu.bx, hu.ow⟩
set_option maxRecDepth 100000 in
set_option maxHeartbeats 2000000 in
theorem sread_any (s : ByteArray) (A : Nat → Addr) (m : Int) (w : World) (hs : s.size ≤ 500000) (S : Te w A m) (R : Rg w) :
    Calls Tryz.prog 14 #[.string s] w fun e w' => ∃ v y, e = .returned (.tuple #[v, y]) ∧ w'.ownsRow w.heap.size 44 3 v (rdX (linesL s.data.toList)).length (flatN .u32 (rdX (linesL s.data.toList))) ∧ ErrAt w' A y (rdF (linesL s.data.toList)).1 (rdF (linesL s.data.toList)).2 ∧ Below w.heap.size w w' := by
  have HB0 := hid ((Below.refl w.heap.size w).alloc (Nat.le_refl _) (.cells #[.slice none 0 0] 34))
  have HBs := hid ((HB0.out).alloc (show w.heap.size ≤ (w.alloc (.cells #[.slice none 0 0] 34)).heap.size by simp) (.cells #[.string s] 9))
  have HSZ := hid (fun t ht => lines_sz s.data.toList t ht)
  have HLE := hid (lines_len s.data.toList)
  rw [len_eq] at HSZ HLE
  have hz1 : (w.alloc (.cells #[.slice none 0 0] 34)).heap.size = w.heap.size + 1 := by simp
  have HCO := hid (col_any (w.heap.size + 1) s (by omega) ((w.alloc (.cells #[.slice none 0 0] 34)).alloc (.cells #[.string s] 9)) (by rw [← hz1]; exact heap_alloc_new _ _))
  obtain ⟨T, hT⟩ : ∃ T, T = linesL s.data.toList := ⟨_, rfl⟩
  rw [← hT] at HSZ HLE HCO ⊢
  clear hT
  have HBX := hid (show ((w.alloc (.cells #[.slice none 0 0] 34)).alloc (.cells #[.string s] 9)).heap[w.heap.size]? = some (.cells #[.slice none 0 0] 34 (0, 0)) by
    rw [((Below.refl _ (w.alloc (.cells #[.slice none 0 0] 34))).alloc (Nat.le_refl _) (.cells #[.string s] 9)).block _ (by rw [hz1]; omega)]
    exact heap_alloc_new _ _)
  have HZ2 := hid (show ((w.alloc (.cells #[.slice none 0 0] 34)).alloc (.cells #[.string s] 9)).heap.size = w.heap.size + 2 by simp)
  have HF := hid (fun (W : World) (v : Value) (hB : Below w.heap.size w W) hbx hv => rfirst_any T A m w W v (by have := HLE.out; omega) (fun t ht => by have := HSZ.out t ht; omega) S R hB hbx hv)
  have HOK := hid (show (rdF T).2 = none → rdX T = lnOf T from fun h => (rdX_ok h).1)
  have HBD := hid (rdX_bad (T := T))
  generalize rdF T = r at *
  generalize rdX T = X at *
  generalize lnOf T = Y at *
  obtain ⟨c, o⟩ := r
  dsimp only at HF HOK HBD ⊢
  clear S R
  go_enter Tryz.func14, Tryz.ntmps14
  go_wp2_with fail
  refine (slines_any s _).mono ?_
  rintro e w1 ⟨rfl, rfl⟩
  rw [hz1]
  clear hz1
  go_wp2_with fail
  refine HCO.out.mono ?_
  rintro e w2 ⟨v, rfl, hv, hb⟩
  have HF2 := hid (HF.out w2 v (HBs.out.trans (hb.mono (by omega))) ((hb.block _ (by omega)).trans HBX.out) (by rw [← HZ2.out]; exact hv))
  clear hv hb
  by_cases hc : c = 0
  · subst hc
    go_wp2_with fail
    refine HF2.out.mono ?_
    rintro e w3 ⟨y, rfl, hy, hb, hx⟩
    obtain rfl := errAt_nilS hy
    have ho : o = none := by
      cases o with
      | none => rfl
      | some i => exact absurd rfl hy.1
    obtain ⟨u, hbx, how⟩ := hx ho
    have HXY := hid (HOK.out ho)
    have HOW := hid how
    have HB3 := hid hb
    have HO := hid ho
    have cbx : w3.cell? ⟨w.heap.size, 0, none⟩ = some u := by rw [Lib.cell_of_heap hbx]; rfl
    clear hy hb hx ho how hbx
    go_wp2_with fail
    go_ret2
    exact ⟨_, _, rfl, by rw [HXY.out]; exact HOW.out, by rw [HO.out]; exact rfl, HB3.out⟩
  · have HC := hid hc
    have HXN := hid (HBD.out hc)
    clear hc
    go_wp2_with fail
    refine HF2.out.mono ?_
    rintro e w3 ⟨y, rfl, hy, hb, -⟩
    obtain ⟨T', a', rfl⟩ := errAt_ifaceS hy HC.out
    have HY := hid hy
    have HB3 := hid hb
    clear hy hb
    go_wp2_with fail
    go_ret2
    exact ⟨_, _, rfl, by rw [HXN.out]; exact ⟨rfl, Or.inl ⟨rfl, rfl⟩⟩, HY.out, HB3.out⟩
end Ve
end Go.Proofs.YtpafkniapacfdaaGreatDoor


namespace Go.Proofs.YtpafkniapacfdaaGreatDoor
open Go.RowKit Go.Maps
namespace Ve
end Ve
end Go.Proofs.YtpafkniapacfdaaGreatDoor
