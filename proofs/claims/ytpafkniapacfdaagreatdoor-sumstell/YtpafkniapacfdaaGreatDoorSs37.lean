
import Derived.Test.YtpafkniapacfdaaGreatDoorSs35
import Derived.Test.YtpafkniapacfdaaGreatDoorSs36
import Derived.Test.YtpafkniapacfdaaGreatDoorSs2
import Derived.Test.YtpafkniapacfdaaGreatDoorSs34
import Derived.Test.YtpafkniapacfdaaGreatDoorSs33
import Derived.Deep.RegionHeldLaw
import Derived.Deep.AppendLies
namespace Go.Proofs.YtpafkniapacfdaaGreatDoor
open Go.RowKit Go.Maps
namespace Ve
end Ve
end Go.Proofs.YtpafkniapacfdaaGreatDoor


namespace Go.Proofs.YtpafkniapacfdaaGreatDoor
open Go.RowKit
namespace Ve
theorem errAt_nilS {W : World} {A : Nat → Addr} {x : Value} {o : Option Nat} (h : ErrAt W A x 0 o) : x = .nilIface := by
  cases o with
  | none => exact h
  | some i => exact absurd rfl h.1
theorem errAt_ifaceS {W : World} {A : Nat → Addr} {x : Value} {c : Nat} {o : Option Nat} (h : ErrAt W A x c o) (hc : c ≠ 0) : ∃ T a, x = .iface T (.pointer (some a)) := by
  cases o with
  | none => exact ⟨_, _, h.trans (errA_if A hc)⟩
  | some i =>
    obtain ⟨_, b, e, _⟩ := h
    exact ⟨_, _, e⟩
theorem lines_bd {X : List Ln} (hs : shortN X) (hn : ∀ x, x ∈ X → x.2 ≤ 4294967295) (k : Nat) : ((X.take k).flatMap lineT).length ≤ 2000020 * X.length := by
  have h1 := flat_bd lineT 2000020 (X.take k) fun x hx => lineT_len (hs x (List.mem_of_mem_take hx)) (hn x (List.mem_of_mem_take hx))
  have h2 : (X.take k).length ≤ X.length := by simp; omega
  exact Nat.le_trans h1 (Nat.mul_le_mul_left _ h2)
set_option maxRecDepth 100000 in
set_option maxHeartbeats 2000000 in
theorem stext_any (X : List Ln) (v : Value) (A : Nat → Addr) (m : Int) (w : World) (hX : X.length ≤ 1000000) (hs : shortN X) (hn : ∀ x, x ∈ X → x.2 ≤ 4294967295) (S : Te w A m) (htab : Lib.TabIs Tryz.prog w powName .u64 Lib.pow10Tab) (hv : LnAt .u32 w v X) :
    Calls Tryz.prog 13 #[v] w fun e w' => ∃ y, e = .returned (.tuple #[.string (bt (txT X)), y]) ∧ ErrAt w' A y (txF X).1 (txF X).2 ∧ Below w.heap.size w w' := by
  have HB0 := hid ((Below.refl w.heap.size w).alloc (Nat.le_refl _) (.cells #[v] 34))
  have hbx : (w.alloc (.cells #[v] 34)).cell? ⟨w.heap.size, 0, none⟩ = some v := by simp
  have HFI := hid (firstL_any 34 #[.pointer (some ⟨w.heap.size, 0, none⟩)] (txE X) X v A (w.alloc (.cells #[v] 34)) (enters_of Tryz.func34 (by kernel_rfl) rfl) hX (hv.below HB0.out)
    (fun i h W hW => textK_any X w.heap.size v A m W hX hs (S.below (HB0.out.trans (hW.mono HB0.out.size))) (cell_below hW hbx) (hv.below (HB0.out.trans (hW.mono HB0.out.size))) i h))
  have HTX := hid (show txF X = (codeE (txE X) X.length, fstE (txE X) X.length) from rfl)
  have HTT := hid (show txT X = if (txF X).1 = 0 then X.flatMap lineT else [] from rfl)
  rw [show codeE (txE X) X.length = (txF X).1 from rfl, show fstE (txE X) X.length = (txF X).2 from rfl] at HFI
  clear HTX
  generalize txF X = r at *
  generalize txT X = T at *
  obtain ⟨c, o⟩ := r
  dsimp only at HFI HTT ⊢
  have HLN := hid (fun W (h : Below w.heap.size w W) => hv.below h)
  have HTB := hid (fun W (h : Below w.heap.size w W) => tab_below htab h)
  have HSN := hid hs
  have HNN := hid hn
  have HLB := hid (lines_bd hs hn)
  obtain ⟨a, cp, rfl, -⟩ := id hv
  clear hv htab hs hn S
  by_cases hc : c = 0
  · rw [if_pos hc] at HTT
    subst hc
    go_enter Tryz.func13, Tryz.ntmps13
    go_wp2_with fail
    refine HFI.out.mono ?_
    rintro e w1 ⟨u, rfl, hu, hb⟩
    obtain rfl := errAt_nilS hu
    have HU := hid (show o = none by
      cases o with
      | none => rfl
      | some i => exact absurd rfl hu.1)
    have HB1 := hid (HB0.out.trans (hb.mono HB0.out.size))
    have c0 := cell_below hb hbx
    clear hb hu hbx
    have HI := hid (Lib.fresh_isBuilder 79 5 w1)
    have HBb := hid ((Below.refl w1.heap.size w1).alloc (Nat.le_refl _) (.cells #[.pointer none, .slice none 0 0] 79))
    have C0 := hid c0
    have c1 := cell_below HBb.out c0
    go_wp2_with fail
    go_loopw [16] (fun i wr => ∃ k : Nat, k ≤ X.length ∧ i = .int .i64 k ∧ Hid (Below w1.heap.size w1 wr) ∧ Hid (Lib.IsBuilder 79 5 w1.heap.size w1.heap.size (Lib.byteCells ((X.take k).flatMap lineT)) wr)) (fun i _ => X.length - (intOf i).toNat)
    case atStart => exact ⟨0, Nat.zero_le _, rfl, HBb, hid (by rw [List.take_zero, List.flatMap_nil]; exact HI.out)⟩
    case round =>
      clear c0 c1
      obtain ⟨k, hk, rfl, HBk, HIk⟩ := hrel
      by_cases hlk : k < X.length
      · obtain ⟨xb, xo, hxa, y0, y1, y2⟩ := (HLN.out _ (HB1.out.trans (HBk.out.mono HB1.out.size))).cells hlk
        subst hxa
        have hkI := ix_lt hlk
        have hk0 := ix_pos k
        have HLK := hid hlk
        have hz := HSN.out X[k] (List.getElem_mem hlk)
        have hnn := HNN.out X[k] (List.getElem_mem hlk)
        have HFN := hid (flat_next lineT hlk)
        have HBD := hid (HLB.out k)
        generalize X[k] = x at *
        obtain ⟨⟨x1, x2⟩, xn⟩ := x
        dsimp only at y0 y1 y2 hz hnn
        have HML := hid (lineT_len (x := ((x1, x2), xn)) hz hnn)
        have HBa := hid (HBk.out.alloc HBk.out.size (.cells #[.string x1, .string x2, .int .u32 (xn : Nat)] 44))
        have HIa := hid (isB_belowS HIk.out ((Below.refl wr.heap.size wr).alloc (Nat.le_refl _) (.cells #[.string x1, .string x2, .int .u32 (xn : Nat)] 44)))
        have HL := hid (ltext_any x1 x2 xn _ hz.1 hz.2 hnn (HTB.out _ (HB1.out.trans (HBa.out.mono HB1.out.size))))
        have hsz : (bt (lineT ((x1, x2), xn))).size ≤ 2000020 := by rw [← len_eq, bt_list]; exact HML.out
        have HDD := hid (bt_list (lineT ((x1, x2), xn)))
        clear hlk hz hnn
        generalize bt (lineT ((x1, x2), xn)) = D at *
        go_wp2_with fail
        refine HL.out.mono ?_
        rintro e w4 ⟨rfl, hb⟩
        have HB4 := hid (HBa.out.trans (hb.mono HBa.out.size))
        have HI4 := hid (isB_belowS HIa.out hb)
        clear hb
        go_wp2_with fail
        refine (write_any w1.heap.size w1.heap.size _ _ _ HI4.out (by have := HBD.out; rw [bytes_lenS]; have h9 : 2000020 * X.length ≤ 2000020 * 1000000 := Nat.mul_le_mul_left _ hX; omega) HB4.out.size).mono ?_
        rintro e w5 ⟨rfl, hI, hb⟩
        have HB5 := hid (HB4.out.trans hb)
        have HI5 := hid (show Lib.IsBuilder 79 5 w1.heap.size w1.heap.size (Lib.byteCells ((X.take (k + 1)).flatMap lineT)) w5 by
          rw [HFN.out, bytes_appS, ← HDD.out, ← strCellsS]; exact Or.inr hI)
        clear hI hb
        go_wp2_with fail
        go_roundw
        case rel => first | exact ⟨k + 1, HLK.out, nx_idx HLK.out (by omega), HB5, HI5⟩ | exact ⟨k + 1, HLK.out, nr_idx k, HB5, HI5⟩
        case measure => first | exact nx_meas HLK.out (by omega) | exact nr_meas HLK.out
      · have hkI := ix_nlt hlk
        have HTK := hid (show X.take k = X from List.take_of_length_le (by omega))
        rw [HTK.out] at HIk
        go_wp2_with fail
        refine (Tryz.Builder_String_any w1.heap.size w1.heap.size _ wr HIk.out HBk.out.size).mono ?_
        rintro e w5 ⟨rfl, hb⟩
        have HB5 := hid (HB1.out.trans ((HBk.out.trans hb).mono HB1.out.size))
        clear hb
        go_wp2_with fail
        go_ret2
        exact ⟨_, by rw [HTT.out]; rfl, by rw [HU.out]; exact rfl, HB5.out⟩
  · rw [if_neg hc] at HTT
    have HC := hid hc
    clear hc
    go_enter Tryz.func13, Tryz.ntmps13
    go_wp2_with fail
    refine HFI.out.mono ?_
    rintro e w1 ⟨u, rfl, hu, hb⟩
    obtain ⟨T', a', rfl⟩ := errAt_ifaceS hu HC.out
    have HU := hid hu
    have HB1 := hid (HB0.out.trans (hb.mono HB0.out.size))
    clear hb hu hbx
    go_wp2_with fail
    go_ret2
    exact ⟨_, by rw [HTT.out]; rfl, HU.out, HB1.out⟩
end Ve
end Go.Proofs.YtpafkniapacfdaaGreatDoor


namespace Go.Proofs.YtpafkniapacfdaaGreatDoor
open Go.RowKit Go.Maps Go.Sort Go.Lib
namespace Ve
end Ve
end Go.Proofs.YtpafkniapacfdaaGreatDoor


namespace Go.Proofs.YtpafkniapacfdaaGreatDoor
open Go.RowKit
namespace Ve
def entQ (Q : List Raw) (L : List Ent) (m : Bm) : Ent := (L[(idxOf (isM m) Q).toNat]?).getD ((⟨#[]⟩, ⟨#[]⟩), [], [], false)
def sumL (Q : List Raw) (L : List Ent) (sel : List Bm) : List Ln := sel.map fun m => (m, sumE (entQ Q L m))
def allX (Q : List Raw) (L : List Ent) (sel : List Bm) : List Ln := if (chkG Q L sel).1 = 0 then sumL Q L sel else []
theorem entQ_at {Q : List Raw} {L : List Ent} {m : Bm} {k : Nat} (h : idxOf (isM m) Q = (k : Int)) (hk : k < L.length) : entQ Q L m = L[k] := by
  unfold entQ
  rw [h, Int.toNat_natCast, List.getElem?_eq_getElem hk]; rfl
theorem sumL_next {Q : List Raw} {L : List Ent} {E : List Bm} {k : Nat} (h : k < E.length) : sumL Q L (E.take (k + 1)) = sumL Q L (E.take k) ++ [(E[k], sumE (entQ Q L E[k]))] := by
  unfold sumL
  rw [List.take_succ_eq_append_getElem h, List.map_append]; rfl
theorem sumL_len (Q : List Raw) (L : List Ent) (E : List Bm) : (sumL Q L E).length = E.length := by unfold sumL; rw [List.length_map]
theorem ent_at {W : World} {b o n c : Nat} {Q : List Raw} {L : List Ent} (I : Ixs W (.slice (some ⟨b, o, none⟩) n c) Q L) {k : Nat} (hk : k < Q.length) (hk' : k < L.length) : ∃ ra rc pa pc, W.cell? ⟨b, o + k * 5, none⟩ = some (.string L[k].1.1) ∧ W.cell? ⟨b, o + k * 5 + 1, none⟩ = some (.string L[k].1.2) ∧
    W.cell? ⟨b, o + k * 5 + 2, none⟩ = some (.slice ra L[k].2.1.length rc) ∧ W.cell? ⟨b, o + k * 5 + 3, none⟩ = some (.slice pa L[k].2.2.1.length pc) ∧ W.cell? ⟨b, o + k * 5 + 4, none⟩ = some (.bool L[k].2.2.2) ∧ MsAt W (.slice ra L[k].2.1.length rc) L[k].2.1 ∧ TxAt W (.slice pa L[k].2.2.1.length pc) L[k].2.2.1 := by
  obtain ⟨-, x0, x1, x2, x3, x4⟩ := es_all I.es hk
  have ok := I.ok k hk hk'
  obtain ⟨ra, rc, hr, -⟩ := id ok.rq
  obtain ⟨pa, pc, hp, -⟩ := id ok.pk
  have hrq := ok.rq
  have hpk := ok.pk
  rw [hr] at x2 hrq
  rw [hp] at x3 hpk
  rw [ok.m] at x0 x1
  rw [ok.bk] at x4
  exact ⟨ra, rc, pa, pc, x0, x1, x2, x3, x4, hrq, hpk⟩
theorem keep_growX {W3 W4 : World} {o : Obj} {b i : Nat} {row : Option Nat} {x : Value} (hg : (W3.alloc o).grownBy W4 row) (hne : some b ≠ row) (hc : W3.cell? ⟨b, i, none⟩ = some x) : W4.cell? ⟨b, i, none⟩ = some x := by
  have hb : b < W3.heap.size := lt_of_cell hc
  have hl : b < (W3.alloc o).heap.size := by simp; omega
  have h1 := ((Below.refl W3.heap.size W3).alloc (Nat.le_refl _) o).block b hb
  have h2 := hg.block b hl hne
  rw [World.cell?_of_block h2, World.cell?_of_block h1]; exact hc
theorem rel_app3 {B : Nat} {w wr w2 w3 : World} {e : TypeId} {v : Value} {n : Nat} {xs : List Value} {o : Obj} (hB : B ≤ wr.heap.size) (hb : Below B w wr) (hown : wr.ownsRow B e 3 v n xs) (hb2 : Below wr.heap.size wr w2)
    (hg : (w2.alloc o).grownBy w3 v.ownBlock) : Below B w w3 := by
  have h2 : Below B w w2 := hb.trans (hb2.mono hB)
  have h3 : Below B w (w2.alloc o) := h2.alloc (Nat.le_trans hB hb2.size) o
  exact h3.grown hg (Nat.le_trans hB (Nat.le_trans hb2.size (by simp))) (fun k hk => (hown.lt k hk).1)
theorem box2S {W : World} {g : Nat} {x y : Value} {T : TypeId} (h : W.heap[g]? = some (.cells #[x, y] T (0, 0))) : W.cell? ⟨g, 0, none⟩ = some x ∧ W.cell? ⟨g, 1, none⟩ = some y ∧ ∀ o, W.frozen? ⟨g, o, none⟩ = false :=
  ⟨by rw [Lib.cell_of_heap h]; rfl, by rw [Lib.cell_of_heap h]; rfl, fun o => Lib.frozen_of_heap h o⟩
theorem codeG_fine {E : Nat → Nat} {n : Nat} (h : codeE E n = 0) : fstE E n = none := by
  cases hf : fstE E n with
  | none => rfl
  | some i => rw [codeE_some hf] at h; exact absurd h (fstE_of_some hf).2.1
set_option maxRecDepth 100000 in
set_option maxHeartbeats 4000000 in
theorem all_good (Q : List Raw) (L : List Ent) (sel : List Bm) (v u : Value) (A : Nat → Addr) (m : Int) (w : World) (hL : L.length ≤ 1000) (hR : sel.length ≤ 1000) (sh : ∀ e, e ∈ L → ShE e) (ok : ∀ e, e ∈ L → OkE e) (S : Te w A m) (I : Ixs w v Q L) (hu : MsAt w u sel)
    (h0 : (chk Q L).1 = 0) (h1 : codeE (nonE Q sel) sel.length = 0) :
    Calls Tryz.prog 11 #[v, u] w fun e w' => ∃ x, e = .returned (.tuple #[x, .nilIface]) ∧ w'.ownsRow w.heap.size 44 3 x (sumL Q L sel).length (flatN .u32 (sumL Q L sel)) ∧ Below w.heap.size w w' := by
  obtain ⟨i0, hi0, hz0, hz1, hz2⟩ := info_parts infoLine
  have HIC := hid (icheck_any Q L v A m w (by omega) sh S I)
  have HCM := hid (fun W (h : Below w.heap.size w W) => cmods_any Q sel v u A m W (by rw [I.ln]; omega) (by omega) (S.below h) (I.es.below h) (hu.below h))
  have HFI := hid (fun m W (h : Below w.heap.size w W) => find_any Q m v W (by rw [I.ln]; omega) (I.es.below h))
  have HKM := hid (fun j (hj : j < sel.length) => (found_iff I sel[j]).1 (nonE_found I h1 _ (List.getElem_mem hj)))
  have HS := hid S
  have HI := hid I
  have HOK := hid ok
  have HMU := hid (fun W (h : Below w.heap.size w W) => hu.below h)
  have HRR := hid hR
  rw [h0] at HIC
  rw [h1, codeG_fine h1] at HCM
  obtain ⟨va, vc, hv1, -⟩ := id I.es
  subst hv1
  obtain ⟨ua, uc, hu1, -⟩ := id hu
  subst hu1
  have HQL := hid I.ln
  clear I hu S sh ok h0 h1 hL
  go_enter Tryz.func11, Tryz.ntmps11
  go_wp2_with fail
  refine HIC.out.mono ?_
  rintro e w1 ⟨x, rfl, hx, hb⟩
  obtain rfl := errAt_nilS hx
  have HB1 := hid hb
  clear hb hx
  go_wp2_with fail
  refine (HCM.out _ HB1.out).mono ?_
  rintro e w2 ⟨x, rfl, hx, hb⟩
  obtain rfl := errAt_nilS hx
  have HB2 := hid (HB1.out.trans (hb.mono HB1.out.size))
  clear hb hx
  go_wp2_with fail
  go_loopw [8, 24] (fun ov iv wr => ∃ i : Nat, i ≤ sel.length ∧ iv = .int .i64 i ∧ Hid (wr.ownsRow w.heap.size 44 3 ov (sumL Q L (sel.take i)).length (flatN .u32 (sumL Q L (sel.take i)))) ∧ Hid (Below w.heap.size w wr)) (fun _ iv _ => sel.length - (intOf iv).toNat)
  case atStart => exact ⟨0, Nat.zero_le _, rfl, hid (World.ownsRow_nil _ _ _ _), HB2⟩
  case round =>
    obtain ⟨i, hi, rfl, HOW, HBr⟩ := hrel
    by_cases hlt : i < sel.length
    · have hiI := ix_lt hlt
      have hii := ix_pos i
      obtain ⟨xb, xo, hxa, y0, y1⟩ := (HMU.out _ HBr.out).cells hlt
      subst hxa
      obtain ⟨k, hk⟩ := HKM.out i hlt
      obtain ⟨hkQ, -⟩ := idx_is hk
      have hkL : k < L.length := by rw [← HQL.out]; exact hkQ
      have HST := hid (sumL_next (Q := Q) (L := L) hlt)
      rw [entQ_at hk hkL] at HST
      have HSL := hid (show (sumL Q L (sel.take i)).length ≤ 1000 by rw [sumL_len, List.length_take]; omega)
      have hiw := HI.out.below (show Below w.heap.size w wr from HBr.out)
      obtain ⟨eb, eo, hea⟩ : ∃ b o, va = some ⟨b, o, none⟩ := by
        obtain ⟨a', c', e, _, _, h⟩ := hiw.es
        injection e with q1 q2 q3
        obtain ⟨b, o, h4, _⟩ := h (fun h => by rw [h] at hkQ; simp at hkQ)
        exact ⟨b, o, by rw [q1, h4]⟩
      subst hea
      obtain ⟨ra, rc, pa, pc, z0, z1, z2, z3, z4, hrq, hpk⟩ := ent_at HI.out hkQ hkL
      have HOF := hid (fun W (h : Below w.heap.size w W) => of_any L[k] ra rc pa pc A m W (HS.out.below h) (HOK.out _ (List.getElem_mem hkL)) (hrq.below h) (hpk.below h))
      have HFI2 := hid (fun W h => HFI.out sel[i] W h)
      rw [hk] at HFI2
      have hebw : eb < w.heap.size := lt_of_cell z0
      clear hiw hrq hpk hk HKM HFI HIC HCM
      generalize sumE L[k] = sm at *
      generalize L[k] = e at *
      obtain ⟨⟨ep, eq⟩, eR, eP, ek⟩ := e
      generalize sel[i] = x at *
      obtain ⟨p, q⟩ := x
      dsimp only at y0 y1 z0 z1 z2 z3 z4 HOF HFI2 HST
      obtain ⟨SX, hSX⟩ : ∃ SX, sumL Q L (sel.take i) = SX := ⟨_, rfl⟩
      rw [hSX] at HOW HST HSL
      have HLI := hid hlt
      clear hSX hlt
      have HAl := hid ((Below.refl wr.heap.size wr).alloc (Nat.le_refl _) (.cells #[.string p, .string q] 42))
      have HBa := hid (HBr.out.trans (HAl.out.mono HBr.out.size))
      have HM0 := hid (heap_alloc_new wr (.cells #[.string p, .string q] 42))
      have HOa := hid (HOW.out.alloc (.cells #[.string p, .string q] 42))
      have HNE := hid (show some wr.heap.size ≠ u8.ownBlock from fun h => Nat.lt_irrefl _ (HOW.out.lt _ h.symm).2)
      have HNF := hid (show some eb ≠ u8.ownBlock from fun h => absurd (HOW.out.lt _ h.symm).1 (by omega))
      go_wp2_with fail
      obtain ⟨wa, hwa⟩ : ∃ wa, wr.alloc (.cells #[.string p, .string q] 42) = wa := ⟨_, rfl⟩
      rw [hwa] at HAl HBa HM0 HOa ⊢
      clear hwa
      obtain ⟨m0, m1, mf⟩ := box2S HM0.out
      have HW := hid (fun W' (hW : Below wa.heap.size wa W') => HBa.out.trans (hW.mono HBa.out.size))
      have HT := hid (fun W' (hW : Below wa.heap.size wa W') => (show (fun W' => W'.cell? ⟨wr.heap.size, 0, none⟩ = some (.string p) ∧ W'.cell? ⟨wr.heap.size, 1, none⟩ = some (.string q) ∧ W'.cell? ⟨eb, eo + k * 5, none⟩ = some (.string ep) ∧ W'.cell? ⟨eb, eo + k * 5 + 1, none⟩ = some (.string eq) ∧ W'.cell? ⟨eb, eo + k * 5 + 2, none⟩ = some (.slice ra eR.length rc) ∧ W'.cell? ⟨eb, eo + k * 5 + 3, none⟩ = some (.slice pa eP.length pc) ∧ W'.cell? ⟨eb, eo + k * 5 + 4, none⟩ = some (.bool ek)) W' from
        let B := HBa.out.trans (hW.mono HBa.out.size)
        ⟨cell_below hW m0, cell_below hW m1, cell_below B z0, cell_below B z1, cell_below B z2, cell_below B z3, cell_below B z4⟩))
      clear m0 m1 mf y0 y1 z0 z1 z2 z3 z4
      have hk0 := ix_pos k
      have hkI : (k : Int) < (Q.length : Int) := by omega
      go_region_held_law (fun W' => W'.cell? ⟨wr.heap.size, 0, none⟩ = some (.string p) ∧ W'.cell? ⟨wr.heap.size, 1, none⟩ = some (.string q) ∧ W'.cell? ⟨eb, eo + k * 5, none⟩ = some (.string ep) ∧ W'.cell? ⟨eb, eo + k * 5 + 1, none⟩ = some (.string eq) ∧ W'.cell? ⟨eb, eo + k * 5 + 2, none⟩ = some (.slice ra eR.length rc) ∧ W'.cell? ⟨eb, eo + k * 5 + 3, none⟩ = some (.slice pa eP.length pc) ∧ W'.cell? ⟨eb, eo + k * 5 + 4, none⟩ = some (.bool ek)) (first | exact (let ⟨t0, t1, t2, t3, t4, t5, t6⟩ := HT.out _ HRa.out; ⟨keep_growX HR9.out HNE.out t0, keep_growX HR9.out HNE.out t1, keep_growX HR9.out HNF.out t2, keep_growX HR9.out HNF.out t3, keep_growX HR9.out HNF.out t4, keep_growX HR9.out HNF.out t5, keep_growX HR9.out HNF.out t6⟩) | exact HT.out _ (HRa.out.alloc HRa.out.size _) | exact HT.out _ HRa.out | exact HT.out _ (below_drawn _ 1)) (first
        | (go_at_call 30; refine (HFI2.out _ (HW.out _ (below_drawn _ 1))).mono ?_; rintro e w3 ⟨rfl, hb⟩; have HRa := hid ((below_drawn wa 1).trans (hb.mono (Nat.le_refl _))); clear hb)
        | (go_at_call 16; refine (HOF.out _ (HW.out _ HRa.out)).mono ?_; rintro e w3 ⟨rfl, hb⟩; have HRa := hid (HRa.out.trans (hb.mono HRa.out.size)); clear hb)
        | (refine step_append_lies _ (by rfl) _ _ 34 (by rfl) w.heap.size 44 i0 _ 3 40 Tryz.underlying34 hi0 hz0 hz1 hz2 rfl (by decide) _ _ _ (by rfl) ((owns_below HOa.out HRa.out).alloc _) ⟨w3.heap.size, 0, none⟩ 1 1 [.string p, .string q, .int .u32 (sm : Nat)] (by rfl) rfl (World.news_of_block (heap_alloc_new _ _)) (by intro u hu; simp at hu; rcases hu with rfl | rfl | rfl <;> rfl) (by decide) (Nat.le_trans (Nat.add_le_add_right HSL.out 1) (by unfold maxLen; decide)) (by have := HSL.out; omega) (Nat.le_trans (HW.out _ HRa.out).size (by simp)) (w3.heap.size + 1) (by simp) ?_; intro g cap w4 hown hgrow hat hlt2; have HR9 := hid hgrow))
      all_goals
        have HB4 := hid (rel_app3 HBa.out.size HBa.out HOa.out HRa.out hgrow)
        have HO4 := hid (show w4.ownsRow w.heap.size 44 3 (.slice (some ⟨g, 0, none⟩) (SX.length + 1) cap) (SX ++ [((p, q), sm)]).length (flatN .u32 (SX ++ [((p, q), sm)])) by rw [flatN_snoc, List.length_append]; exact hown)
        clear hown hgrow hat hlt2 HR9
        go_wp2_with fail
        go_roundw
        case rel => first | exact ⟨i + 1, HLI.out, nr_idx i, hid (by rw [HST.out]; exact HO4.out), HB4⟩ | exact ⟨i + 1, HLI.out, nx_idx HLI.out (by omega), hid (by rw [HST.out]; exact HO4.out), HB4⟩
        case measure => first | exact nr_meas HLI.out | exact nx_meas HLI.out (by omega)
    · have hiI := ix_nlt hlt
      have HTA := hid (show sel.take i = sel from List.take_of_length_le (by omega))
      rw [HTA.out] at HOW
      clear hlt
      go_wp2_with fail
      go_ret2
      exact ⟨_, rfl, HOW.out, HBr.out⟩
end Ve
end Go.Proofs.YtpafkniapacfdaaGreatDoor
