/-
  What mvs.Build answers; the closed fact of the statements (built).
-/
import Derived.Test.YtoaobngpdaidoaaGreatDoorMt6
import Derived.Test.YtoaobngpdaidoaaGreatDoorMt5
import Derived.Test.YtoaobngpdaidoaaGreatDoorMt4
import Derived.Deep.RegionHeldLaw
import Derived.Deep.AppendLies
namespace Go.Proofs.YtoaobngpdaidoaaGreatDoor
open Go.RowKit Go.Maps
namespace Ve

theorem goM_sub {w : World} {v : Value} {Q : List Raw} {L : List Ent} (I : Ixs w v Q L) {T : By} {m : Bm} (h : m ∈ goM T Q) : m ∈ univ L := by
  rw [← univ_eq I]
  unfold goM goQ at h
  obtain ⟨r, hr, e⟩ := List.mem_map.1 h
  exact List.mem_map.2 ⟨r, (List.mem_filter.1 hr).1, e⟩
theorem univ_szJ {L : List Ent} (sh : ∀ e, e ∈ L → ShE e) {m : Bm} (h : m ∈ univ L) : m.1.size < 999999 ∧ m.2.size < 999999 := by
  obtain ⟨e, he, rfl⟩ := List.mem_map.1 h
  exact ⟨(sh e he).p, (sh e he).v⟩
theorem goM_lenJ {w : World} {v : Value} {Q : List Raw} {L : List Ent} (I : Ixs w v Q L) (T : By) : (goM T Q).length ≤ L.length := by
  unfold goM goQ
  rw [List.length_map, ← I.ln]
  exact List.length_filter_le _ _
theorem em_none : Em (.slice none 0 0) [] := fun a c e _ => by
  injection e with e1 e2 e3
  subst e1 e3
  exact Or.inl rfl
theorem ms_none (w : World) : MsAt w (.slice none 0 0) [] := ⟨none, 0, rfl, Nat.le_refl _, fun h => absurd rfl h⟩
set_option maxRecDepth 100000 in
set_option maxHeartbeats 2000000 in
theorem build_bad (Q : List Raw) (L : List Ent) (roots : List Bm) (v rv : Value) (A : Nat → Addr) (m : Int) (w : World) (hn : L.length ≤ 1000) (hrn : roots.length ≤ 1000000) (sh : ∀ e, e ∈ L → ShE e) (S : Te w A m) (I : Ixs w v Q L) (hr : MsAt w rv roots) (h0 : (chkG Q L roots).1 ≠ 0) :
    Calls Tryz.prog 11 #[v, rv] w fun e w' => ∃ T a, e = .returned (.tuple #[.slice none 0 0, .iface T (.pointer (some a))]) ∧ ErrAt w' A (.iface T (.pointer (some a))) (chkG Q L roots).1 (chkG Q L roots).2 ∧ Below w.heap.size w w' := by
  have HCK := hid (reach_bad Q L roots v rv A m w hn hrn sh S I hr h0)
  obtain ⟨a, c, hv, -⟩ := id I.es
  subst hv
  obtain ⟨ra, rc, hrv, -⟩ := id hr
  subst hrv
  clear S I hr sh h0
  go_enter Tryz.func11, Tryz.ntmps11
  go_wp2_with fail
  refine HCK.out.mono ?_
  rintro e w1 ⟨T, xa, rfl, he, hb⟩
  have HB := hid hb
  have HE := hid he
  clear hb he HCK
  go_wp2_with fail
  go_ret2
  exact ⟨_, _, rfl, HE.out, HB.out⟩
/-- What is built: of what is reached, of each path the greatest. -/
structure Bt (Q : List Raw) (L : List Ent) (roots E : List Bm) : Prop where
  c : ∃ T, Came (reqQ Q L) (univ L) roots T ∧ Jn (goM T Q) E ∧ E.length ≤ (goM T Q).length
set_option maxRecDepth 100000 in
set_option maxHeartbeats 2000000 in
theorem build_good (Q : List Raw) (L : List Ent) (roots : List Bm) (v rv : Value) (A : Nat → Addr) (m : Int) (w : World) (hn : L.length ≤ 1000) (hrn : roots.length ≤ 1000000) (sh : ∀ e, e ∈ L → ShE e) (S : Te w A m) (I : Ixs w v Q L) (hr : MsAt w rv roots) (h0 : (chkG Q L roots).1 = 0) :
    Calls Tryz.prog 11 #[v, rv] w fun e w' => ∃ u E, e = .returned (.tuple #[u, .nilIface]) ∧ Bt Q L roots E ∧ Mr w w' u E := by
  have HRE := hid (reach_good Q L roots v rv A m w hn hrn sh S I hr h0)
  have hl : L.length ≤ 100 := by
    by_cases hc : (chk Q L).1 = 0
    · exact (chk_each0 hc).1
    · rw [chkG_bad hc] at h0; exact absurd h0 hc
  have HS := hid S
  have HI := hid I
  have HSH := hid sh
  obtain ⟨a, c, hv, -⟩ := id I.es
  subst hv
  obtain ⟨ra, rc, hrv, -⟩ := id hr
  subst hrv
  clear S I hr sh h0
  go_enter Tryz.func11, Tryz.ntmps11
  go_wp2_with fail
  refine HRE.out.mono ?_
  rintro e w1 ⟨u, rfl, T, hcm, hown, hb⟩
  have HCM := hid hcm
  have HB := hid hb
  have hgl := goM_lenJ HI.out T
  have HM := hid (mr_own hown hb)
  have HJ := hid (join_mods (goM T Q) [] u (.slice none 0 0) A m w1 HM.out.ms (ms_none w1) HM.out.em em_none (by omega) (by simp) (fun r hr => univ_szJ HSH.out (goM_sub HI.out (by simpa using hr))) (HS.out.below hb))
  rw [List.append_nil] at HJ
  obtain ⟨ua, uc, hu⟩ := HM.out.sl
  subst hu
  clear hcm hown hb HRE HM
  go_wp2_with fail
  refine HJ.out.mono ?_
  rintro e w2 ⟨x, E, rfl, hel, hj, hm⟩
  have HMX := hid (hm.base HB.out)
  have HBT := hid (show Bt Q L roots E from ⟨T, HCM.out, hj, hel⟩)
  obtain ⟨xa, xc, hx⟩ := hm.sl
  subst hx
  clear hel hj hm HJ
  go_wp2_with fail
  go_ret2
  exact ⟨_, E, rfl, HBT.out, HMX.out⟩
theorem sm_chkG2 (g : Nat) : (chkG (smQ g) smL [ma0, ma1]).1 = 0 := by
  rw [chkG_ok (by rw [sm_chk])]
  show codeE (nonE (smQ g) [ma0, ma1]) 2 = 0
  kernel_rfl
theorem sm_go2 {g : Nat} {T : By} (h : Came (reqQ (smQ g) smL) (univ smL) [ma0, ma1] T) : goM T (smQ g) = [ma0, ma1, mb0] := by
  have c0 : cameB T ma0 = true := (h.cameB _).2 (.root (by simp))
  have c1 : cameB T ma1 = true := (h.cameB _).2 (.root (by simp))
  have cb : cameB T mb0 = true := (h.cameB _).2 (.step (.root (show ma1 ∈ [ma0, ma1] by simp)) (by rw [sm_r1]; simp))
  unfold goM goQ smQ
  simp [c0, c1, cb]
theorem sm_jn : Jn [ma0, ma1, mb0] [ma1, mb0] := by
  have e0 : decide (ordV (vb ma0) (vb ma1) ≤ 0) = true := by kernel_rfl
  have e1 : decide (ordV (vb ma1) (vb ma1) ≤ 0) = true := by kernel_rfl
  have e2 : decide (ordV (vb mb0) (vb mb0) ≤ 0) = true := by kernel_rfl
  have m1 : mErr ma1 = 0 := by kernel_rfl
  have m2 : mErr mb0 = 0 := by kernel_rfl
  have l1 : lt ma1.1 mb0.1 = true := by kernel_rfl
  refine ⟨?_, fun e he => ?_, fun x hx _ => ?_⟩
  · refine List.pairwise_cons.2 ⟨fun b hb => ?_, List.pairwise_singleton _ _⟩
    rw [List.mem_singleton.1 hb]; exact l1
  · rcases List.mem_cons.1 he with rfl | he
    · exact ⟨by simp, m1⟩
    · rw [List.mem_singleton.1 he]; exact ⟨by simp, m2⟩
  · rcases List.mem_cons.1 hx with rfl | hx
    · exact ⟨ma1, by simp, rfl, of_decide_eq_true e0⟩
    · rcases List.mem_cons.1 hx with rfl | hx
      · exact ⟨ma1, by simp, rfl, of_decide_eq_true e1⟩
      · rw [List.mem_singleton.1 hx]
        exact ⟨mb0, by simp, rfl, of_decide_eq_true e2⟩
theorem sm_bt {g : Nat} {E : List Bm} (h : Bt (smQ g) smL [ma0, ma1] E) : E = [ma1, mb0] := by
  obtain ⟨T, h1, h2, _⟩ := h.c
  rw [sm_go2 h1] at h2
  exact h2.one sm_jn (fun _ _ => Iff.rfl)
set_option maxRecDepth 100000 in
set_option maxHeartbeats 4000000 in
/-- pewholderlaw2.built. -/
theorem built_any (A : Nat → Addr) (m : Int) (w : World) (S : Te w A m) : Calls Tryz.prog 7 #[] w fun e w' => e = .returned (.bool true) ∧ Below w.heap.size w w' := by
  have HSM := hid smallI_any
  have HS := hid S
  clear S
  go_enter Tryz.func7, Tryz.ntmps7
  go_wp2_with fail
  refine (HSM.out w).mono ?_
  rintro e w1 ⟨g, q, rfl, hix, hb⟩
  have hBa := (Below.refl w1.heap.size w1).alloc (Nat.le_refl _) (.cells #[.string ⟨#[97]⟩, .string ⟨#[118, 49, 46, 48, 46, 48]⟩, .string ⟨#[97]⟩, .string ⟨#[118, 49, 46, 49, 46, 48]⟩] 46)
  have hB1 := hb.trans (hBa.mono hb.size)
  have hms : MsAt (w1.alloc (.cells #[.string ⟨#[97]⟩, .string ⟨#[118, 49, 46, 48, 46, 48]⟩, .string ⟨#[97]⟩, .string ⟨#[118, 49, 46, 49, 46, 48]⟩] 46)) (.slice (some ⟨w1.heap.size, 0, none⟩) 2 2) [ma0, ma1] := ⟨some ⟨w1.heap.size, 0, none⟩, 2, rfl, Nat.le_refl _, fun _ => ⟨w1.heap.size, 0, rfl, fun j hj => by
    have hj2 : j < 2 := hj
    rcases (by omega : j = 0 ∨ j = 1) with rfl | rfl
    · refine ⟨?_, ?_⟩ <;> (rw [Lib.cell_of_heap (heap_alloc_new w1 _)]; rfl)
    · refine ⟨?_, ?_⟩ <;> (rw [Lib.cell_of_heap (heap_alloc_new w1 _)]; rfl)⟩⟩
  have HBU := hid (build_good (smQ g) smL [ma0, ma1] _ _ A m _ (by decide) (by decide) sm_sh (HS.out.below hB1) (hix.below hBa) hms (sm_chkG2 g))
  have HB1 := hid hB1
  clear hix hb hBa hms hB1
  go_wp2_with fail
  refine HBU.out.mono ?_
  rintro e w2 ⟨u, E, rfl, hbt, hM⟩
  obtain rfl := sm_bt hbt
  have HB2 := hid (HB1.out.trans (hM.1.mono HB1.out.size))
  have hms := hM.ms
  obtain ⟨_, ua, uc, rfl, huc, hk⟩ := hM
  obtain ⟨ug, rfl, hmw⟩ : ∃ g, ua = some ⟨g, 0, none⟩ ∧ Mw _ w2 g [ma1, mb0] := by
    rcases hk with ⟨h, _⟩ | h
    · cases h
    · exact h
  have k0 : w2.cell? ⟨ug, 0, none⟩ = some (.string ⟨#[97]⟩) := hmw.c0 0 (by decide)
  have k1 : w2.cell? ⟨ug, 1, none⟩ = some (.string ⟨#[118, 49, 46, 49, 46, 48]⟩) := hmw.c1 0 (by decide)
  have hm1 : MsAt w2 (.slice (some ⟨ug, 0, none⟩) 1 uc) [ma1] := ⟨_, uc, rfl, by have h2 : 2 ≤ uc := huc; show 1 ≤ uc; omega, fun _ => ⟨ug, 0, rfl, fun j hj => by
    have hj2 : j < 1 := hj
    obtain rfl : j = 0 := by omega
    exact ⟨k0, k1⟩⟩⟩
  have HUN := hid (und_any [ma1] [ma1, mb0] _ _ A m w2 (by decide) (by decide) (fun x hx => by rw [List.mem_singleton.1 hx]; decide) (fun x hx => by
    rcases List.mem_cons.1 hx with rfl | hx
    · decide
    · rw [List.mem_singleton.1 hx]; decide) (HS.out.below HB2.out) hm1 hms)
  have hub : undB [ma1] [ma1, mb0] = true := by kernel_rfl
  rw [hub, show ([ma1, mb0] : List Bm).length = 2 from rfl] at HUN
  have s1 : ((⟨#[118, 49, 46, 49, 46, 48]⟩ : ByteArray).toList == (⟨#[118, 49, 46, 49, 46, 48]⟩ : ByteArray).toList) = true := by simp
  have huc2 : (2 : Int) ≤ (uc : Int) := by have h2 : 2 ≤ uc := huc; omega
  have huc1 : (1 : Int) ≤ (uc : Int) := by omega
  clear hbt hk hmw hms hm1 hub HBU
  go_wp2_with fail
  refine HUN.out.mono ?_
  rintro e w3 ⟨rfl, hb⟩
  have HB3 := hid (HB2.out.trans (hb.mono HB2.out.size))
  clear hb
  go_wp2_with fail
  go_ret
  exact ⟨rfl, HB3.out⟩
end Ve
end Go.Proofs.YtoaobngpdaidoaaGreatDoor

/-
  What slices.Equal answers over modules; what mvs.IsSelection answers: do paths rise?
-/
namespace Go.Proofs.YtoaobngpdaidoaaGreatDoor
open Go.RowKit Go.Maps
namespace Ve

set_option maxHeartbeats 2000000 in
theorem eqS_len (a a' : Option Addr) (n n' c c' : Nat) (w : World) (h : n ≠ n') : Calls Tryz.prog 55 #[.slice a n c, .slice a' n' c'] w fun e w' => e = .returned (.bool false) ∧ Below w.heap.size w w' := by
  have h1 : ¬ (n : Int) = (n' : Int) := by omega
  have h2 : ((n : Int) == (n' : Int)) = false := by simp; omega
  go_enter Tryz.func55, Tryz.ntmps55
  go_wp2_with fail
  go_ret
  exact ⟨rfl, Below.refl _ _⟩
set_option maxHeartbeats 2000000 in
theorem eqS_some (L M : List Bm) (b o c b' o' c' : Nat) (w : World) (hn : L.length ≤ 1000000) (hl : M.length = L.length)
    (hc : ∀ j (h : j < L.length), w.cell? ⟨b, o + j * 2, none⟩ = some (.string L[j].1) ∧ w.cell? ⟨b, o + j * 2 + 1, none⟩ = some (.string L[j].2))
    (hd : ∀ j (h : j < M.length), w.cell? ⟨b', o' + j * 2, none⟩ = some (.string M[j].1) ∧ w.cell? ⟨b', o' + j * 2 + 1, none⟩ = some (.string M[j].2)) :
    Calls Tryz.prog 55 #[.slice (some ⟨b, o, none⟩) L.length c, .slice (some ⟨b', o', none⟩) L.length c'] w fun e w' => e = .returned (.bool (decide (L = M))) ∧ Below w.heap.size w w' := by
  have HC := hid hc
  have HD := hid hd
  have hgd := modGuard
  have HX := hid (show (∀ j (h : j < L.length) (h' : j < M.length), L[j] = M[j]) → decide (L = M) = true from fun h => decide_eq_true (List.ext_getElem hl.symm (fun j h1 h2 => h j h1 h2)))
  have HY := hid (show ∀ j (h : j < L.length) (h' : j < M.length), L[j] ≠ M[j] → decide (L = M) = false from fun j h h' hne => decide_eq_false (fun e => hne (by subst e; rfl)))
  generalize decide (L = M) = z at *
  clear hc hd
  go_enter Tryz.func55, Tryz.ntmps55
  go_wp2_with fail
  go_loopw [13] (fun i wr => ∃ k : Nat, k ≤ L.length ∧ i = .int .i64 k ∧ Hid (∀ j (h : j < L.length) (h' : j < M.length), j < k → L[j] = M[j]) ∧ Hid (Below w.heap.size w wr)) (fun i _ => L.length - (intOf i).toNat)
  case atStart => exact ⟨0, Nat.zero_le _, rfl, hid (fun j _ _ hj => absurd hj (Nat.not_lt_zero _)), hid (Below.refl _ _)⟩
  case round =>
    obtain ⟨k, hk, rfl, HE, HB⟩ := hrel
    by_cases hlt : k < L.length
    · have hlm : k < M.length := by omega
      have hx := cell_below HB.out (HC.out k hlt).1
      have hy := cell_below HB.out (HC.out k hlt).2
      have hx' := cell_below HB.out (HD.out k hlm).1
      have hy' := cell_below HB.out (HD.out k hlm).2
      have hne := fun W => modNeq L[k].1 L[k].2 M[k].1 M[k].2 W
      have hkI : (k : Int) < (L.length : Int) := by omega
      have HLT := hid hlt
      have HN := hid (show L[k] = M[k] → ∀ j (h : j < L.length) (h' : j < M.length), j < k + 1 → L[j] = M[j] from fun h0 j h1 h2 h3 => by
        rcases Nat.lt_or_ge j k with h | h
        · exact HE.out j h1 h2 h
        · have : j = k := by omega
          subst this; exact h0)
      have HYK := hid (HY.out k hlt hlm)
      generalize L[k] = x at *
      generalize M[k] = y at *
      obtain ⟨x1, x2⟩ := x
      obtain ⟨y1, y2⟩ := y
      simp only at hx hy hx' hy' hne
      clear hlt hlm
      by_cases he : x1 = y1 ∧ x2 = y2
      · rw [decide_eq_true he] at hne
        have HN2 := hid (HN.out (Prod.ext he.1 he.2))
        clear he HN
        go_wp2_with fail
        go_quiet (fail)
        go_wp2_with fail
        go_roundw
        case rel => first | exact ⟨k + 1, HLT.out, nr_idx k, HN2, hid (below_drawn_of HB.out _)⟩ | exact ⟨k + 1, HLT.out, nx_idx HLT.out hn, HN2, hid (below_drawn_of HB.out _)⟩
        case measure => first | exact nr_meas HLT.out | exact nx_meas HLT.out hn
      · rw [decide_eq_false he] at hne
        have HZ := hid (HYK.out (fun e => he (by injection e with e1 e2; exact ⟨e1, e2⟩)))
        clear he HN
        go_wp2_with fail
        go_quiet (fail)
        go_wp2_with fail
        go_ret
        exact ⟨by rw [HZ.out]; rfl, below_drawn_of HB.out _⟩
    · have hkI : ¬ (k : Int) < (L.length : Int) := by omega
      have HZ := hid (HX.out (fun j h h' => HE.out j h h' (by omega)))
      go_wp2_with fail
      go_ret
      exact ⟨by rw [HZ.out]; rfl, HB.out⟩
theorem eqS_none (a a' : Option Addr) (c c' : Nat) (w : World) : Calls Tryz.prog 55 #[.slice a 0 c, .slice a' 0 c'] w fun e w' => e = .returned (.bool true) ∧ Below w.heap.size w w' := by
  go_enter Tryz.func55, Tryz.ntmps55
  go_wp2_with fail
  go_loopw [13] (fun i wr => i = .int .i64 0 ∧ wr = w) (fun i _ => 0)
  case atStart => exact ⟨rfl, rfl⟩
  case round =>
    obtain ⟨rfl, rfl⟩ := hrel
    go_wp2_with fail
    go_ret
    exact ⟨rfl, Below.refl _ _⟩
theorem eqS_any (L M : List Bm) (v u : Value) (w : World) (hn : L.length ≤ 1000000) (hv : MsAt w v L) (hu : MsAt w u M) : Calls Tryz.prog 55 #[v, u] w fun e w' => e = .returned (.bool (decide (L = M))) ∧ Below w.heap.size w w' := by
  obtain ⟨a, c, rfl, _, h⟩ := hv
  obtain ⟨a', c', rfl, _, h'⟩ := hu
  by_cases hl : M.length = L.length
  · cases L with
    | nil =>
      have : M = [] := List.length_eq_zero_iff.1 hl
      subst this
      exact eqS_none a a' c c' w
    | cons x r =>
      obtain ⟨b, o, rfl, h2⟩ := h (by simp)
      obtain ⟨b', o', rfl, h3⟩ := h' (fun e => by rw [e] at hl; simp at hl)
      rw [hl]
      exact eqS_some (x :: r) M b o c b' o' c' w hn hl h2 h3
  · rw [decide_eq_false (fun e => hl (by rw [e]))]
    exact eqS_len a a' _ _ c c' w (fun e => hl e.symm)
/-- Do paths rise? -/
def risB2 : List Bm → Bool
  | [] => true
  | [_] => true
  | a :: b :: r => lt a.1 b.1 && risB2 (b :: r)
theorem risB2_iff : ∀ {L : List Bm}, risB2 L = true ↔ rising L
  | [] => ⟨fun _ => List.Pairwise.nil, fun _ => rfl⟩
  | [a] => ⟨fun _ => List.pairwise_singleton _ _, fun _ => rfl⟩
  | a :: b :: r => by
    unfold risB2
    rw [Bool.and_eq_true, risB2_iff]
    constructor
    · rintro ⟨h1, h2⟩
      refine List.pairwise_cons.2 ⟨fun c hc => ?_, h2⟩
      rcases List.mem_cons.1 hc with rfl | hc
      · exact h1
      · exact lt_trans h1 ((List.pairwise_cons.1 h2).1 c hc)
    · intro h
      obtain ⟨h1, h2⟩ := List.pairwise_cons.1 h
      exact ⟨h1 b (by simp), h2⟩
theorem risB2_all : ∀ {L : List Bm}, (∀ j (h : j + 1 < L.length), lt (L[j]'(by omega)).1 L[j + 1].1 = true) → risB2 L = true
  | [], _ => rfl
  | [_], _ => rfl
  | a :: b :: r, h => by
    unfold risB2
    rw [Bool.and_eq_true]
    exact ⟨h 0 (by simp), risB2_all (L := b :: r) fun j hj => h (j + 1) (by simpa using hj)⟩
theorem risB2_not {L : List Bm} {j : Nat} (h : j + 1 < L.length) (hn : lt (L[j]'(by omega)).1 L[j + 1].1 = false) : risB2 L = false := by
  cases hb : risB2 L
  · rfl
  · have := List.pairwise_iff_getElem.1 (risB2_iff.1 hb) j (j + 1) (by omega) h (by omega)
    rw [hn] at this; cases this
theorem geqB (a b : ByteArray) (X : World) : (binOp BinOp.geq 9 (.string a) (.string b)).run Tryz.prog X = .ok (.bool (!lt a b)) X := by rw [← noLess_lt, ← noLess_is]; rfl
theorem isSel_none (a : Option Addr) (c : Nat) (w : World) : Calls Tryz.prog 57 #[.slice a 0 c] w fun e w' => e = .returned (.bool true) ∧ Below w.heap.size w w' := by
  go_enter Tryz.func57, Tryz.ntmps57
  go_wp2_with fail
  go_loopw [3] (fun i wr => i = .int .i64 1 ∧ wr = w) (fun i _ => 0)
  case atStart => exact ⟨rfl, rfl⟩
  case round =>
    obtain ⟨rfl, rfl⟩ := hrel
    go_wp2_with fail
    go_ret
    exact ⟨rfl, Below.refl _ _⟩
set_option maxHeartbeats 2000000 in
theorem isSel_some (L : List Bm) (b o c : Nat) (w : World) (hn : L.length ≤ 1000000) (h0 : 0 < L.length)
    (hc : ∀ j (h : j < L.length), w.cell? ⟨b, o + j * 2, none⟩ = some (.string L[j].1) ∧ w.cell? ⟨b, o + j * 2 + 1, none⟩ = some (.string L[j].2)) :
    Calls Tryz.prog 57 #[.slice (some ⟨b, o, none⟩) L.length c] w fun e w' => e = .returned (.bool (risB2 L)) ∧ Below w.heap.size w w' := by
  have HC := hid hc
  have HX := hid (show (∀ j (h : j + 1 < L.length), lt (L[j]'(by omega)).1 L[j + 1].1 = true) → risB2 L = true from fun h => risB2_all h)
  have HY := hid (show ∀ j (h : j + 1 < L.length), lt (L[j]'(by omega)).1 L[j + 1].1 = false → risB2 L = false from fun j h hne => risB2_not h hne)
  generalize risB2 L = z at *
  clear hc
  go_enter Tryz.func57, Tryz.ntmps57
  go_wp2_with fail
  go_loopw [3] (fun i wr => ∃ k : Nat, k + 1 ≤ L.length ∧ i = .int .i64 ((k : Int) + 1) ∧ Hid (∀ j (h : j + 1 < L.length), j < k → lt (L[j]'(by omega)).1 L[j + 1].1 = true) ∧ Hid (Below w.heap.size w wr)) (fun i _ => L.length - (intOf i).toNat)
  case atStart => exact ⟨0, h0, rfl, hid (fun j _ hj => absurd hj (Nat.not_lt_zero _)), hid (Below.refl _ _)⟩
  case round =>
    obtain ⟨k, hk, rfl, HE, HB⟩ := hrel
    by_cases hlt : k + 1 < L.length
    · have hx := cell_below HB.out (HC.out k (Nat.lt_of_succ_lt hlt)).1
      have hx' := cell_below HB.out (HC.out (k + 1) hlt).1
      have hge := fun W => geqB (L[k]'(by omega)).1 L[k + 1].1 W
      have hkI : (k : Int) + 1 < (L.length : Int) := by omega
      have kx1 : (0 : Int) ≤ (k : Int) + 1 := by omega
      have kx2 : (k : Int) + 1 - 1 = (k : Int) := by omega
      have kx3 : (k : Int) < (L.length : Int) := by omega
      have kx4 : (0 : Int) ≤ (k : Int) := by omega
      have ktn : ((k : Int) + 1).toNat = k + 1 := by omega
      have kw0 : wrap64 (k : Int) = (k : Int) := IntWalk.wrap64_in _ (by omega)
      have kw1 : IntKind.i64.wrap (k : Int) = (k : Int) := by rw [IntKind.wrap_i64] <;> omega
      have kw2 : wrap64 ((k : Int) + 1 + 1) = (k : Int) + 1 + 1 := IntWalk.wrap64_in _ (by omega)
      have HLT := hid hlt
      have HN := hid (show lt (L[k]'(by omega)).1 L[k + 1].1 = true → ∀ j (h : j + 1 < L.length), j < k + 1 → lt (L[j]'(by omega)).1 L[j + 1].1 = true from fun h0 j h1 h2 => by
        rcases Nat.lt_or_ge j k with h | h
        · exact HE.out j h1 h
        · have : j = k := by omega
          subst this; exact h0)
      have HYK := hid (HY.out k hlt)
      generalize (L[k]'(Nat.lt_of_succ_lt hlt)) = x at *
      generalize (L[k + 1]'hlt) = y at *
      obtain ⟨x1, x2⟩ := x
      obtain ⟨y1, y2⟩ := y
      simp only at hx hx' hge HN HYK
      clear hlt hk
      cases he : lt x1 y1 with
      | true =>
        have HN2 := hid (HN.out he)
        rw [he] at hge
        clear he HN HYK
        go_wp2_with fail
        go_quiet (fail)
        go_wp2_with fail
        go_roundw
        case rel => exact ⟨k + 1, HLT.out, by first | rfl | (simp only [kw2]; push_cast; rfl), HN2, hid (below_drawn_of HB.out _)⟩
        case measure =>
          have := HLT.out
          simp only [intOf]
          omega
      | false =>
        have HZ := hid (HYK.out he)
        rw [he] at hge
        clear he HN HYK
        go_wp2_with fail
        go_quiet (fail)
        go_wp2_with fail
        go_ret
        exact ⟨by rw [HZ.out]; rfl, below_drawn_of HB.out _⟩
    · have hkI : ¬ (k : Int) + 1 < (L.length : Int) := by omega
      have HZ := hid (HX.out (fun j h => HE.out j h (by omega)))
      go_wp2_with fail
      go_ret
      exact ⟨by rw [HZ.out]; rfl, HB.out⟩
/-- mvs.IsSelection. -/
theorem isSel_any (L : List Bm) (v : Value) (w : World) (hv : MsAt w v L) (hn : L.length ≤ 1000000) :
    Calls Tryz.prog 57 #[v] w fun e w' => e = .returned (.bool (risB2 L)) ∧ Below w.heap.size w w' := by
  obtain ⟨a, c, rfl, _, h⟩ := hv
  cases L with
  | nil => exact isSel_none a c w
  | cons x r =>
    obtain ⟨b, o, rfl, h2⟩ := h (by simp)
    exact isSel_some (x :: r) b o c w hn (by simp) h2
end Ve
end Go.Proofs.YtoaobngpdaidoaaGreatDoor

/-
  What mvs.check and mvs.Closed answer.
-/
namespace Go.Proofs.YtoaobngpdaidoaaGreatDoor
open Go.RowKit Go.Maps
namespace Ve

/-- What is wrong with an index, roots and a selection. -/
def chkC (Q : List Raw) (L : List Ent) (roots sel : List Bm) : Nat × Option Nat := if (chkG Q L roots).1 ≠ 0 then chkG Q L roots else if codeE (nonE Q sel) sel.length ≠ 0 then (codeE (nonE Q sel) sel.length, fstE (nonE Q sel) sel.length) else if risB2 sel then (0, none) else (8, none)
theorem univ_right {Q : List Raw} {L : List Ent} (h : (chk Q L).1 = 0) : ∀ m, m ∈ univ L → mErr m = 0 := fun m hm => by
  obtain ⟨e, he, rfl⟩ := List.mem_map.1 hm
  obtain ⟨j, hj, rfl⟩ := List.getElem_of_mem he
  exact entE_mod hj ((chk_each0 h).2 j hj)
theorem chkC_bad {Q : List Raw} {L : List Ent} {roots sel : List Bm} (h : (chkG Q L roots).1 ≠ 0) : chkC Q L roots sel = chkG Q L roots := by unfold chkC; rw [if_pos h]
theorem chkC_sel {Q : List Raw} {L : List Ent} {roots sel : List Bm} (h : (chkG Q L roots).1 = 0) (h2 : codeE (nonE Q sel) sel.length ≠ 0) : chkC Q L roots sel = (codeE (nonE Q sel) sel.length, fstE (nonE Q sel) sel.length) := by unfold chkC; rw [if_neg (by simp [h]), if_pos h2]
theorem chkC_ris {Q : List Raw} {L : List Ent} {roots sel : List Bm} (h : (chkG Q L roots).1 = 0) (h2 : codeE (nonE Q sel) sel.length = 0) : chkC Q L roots sel = if risB2 sel then (0, none) else (8, none) := by unfold chkC; rw [if_neg (by simp [h]), if_neg (by simp [h2])]
set_option maxRecDepth 100000 in
set_option maxHeartbeats 4000000 in
/-- mvs.check. -/
theorem mcheck_all (Q : List Raw) (L : List Ent) (roots sel : List Bm) (v rv sv : Value) (A : Nat → Addr) (m : Int) (w : World) (hn : L.length ≤ 1000) (hrn : roots.length ≤ 1000000) (hsn : sel.length ≤ 500) (sh : ∀ e, e ∈ L → ShE e) (S : Te w A m) (I : Ixs w v Q L) (hr : MsAt w rv roots) (hs : MsAt w sv sel) (es : Em sv sel) :
    Calls Tryz.prog 36 #[v, rv, sv] w fun e w' => ∃ x, e = .returned x ∧ ErrAt w' A x (chkC Q L roots sel).1 (chkC Q L roots sel).2 ∧ Below w.heap.size w w' := by
  have HCK := hid (icheck_any Q L v A m w (by omega) sh S I)
  have HCM := hid (fun W (h : Below w.heap.size w W) => cmods_any Q roots v rv A m W (by rw [I.ln]; omega) hrn (S.below h) (I.es.below h) (hr.below h))
  have HCS := hid (fun W (h : Below w.heap.size w W) => cmods_any Q sel v sv A m W (by rw [I.ln]; omega) (by omega) (S.below h) (I.es.below h) (hs.below h))
  have HIS := hid (fun W (h : Below w.heap.size w W) (_ : (chk Q L).1 = 0) (_ : codeE (nonE Q sel) sel.length = 0) => isSel_any sel sv W (hs.below h) (by omega))
  have HS := hid S
  obtain ⟨a, c, hv, -⟩ := id I.es
  subst hv
  obtain ⟨ra, rc, hrv, -⟩ := id hr
  subst hrv
  obtain ⟨sa, sc, hsv, -⟩ := id hs
  subst hsv
  clear S I hr sh hs es
  by_cases h0 : (chk Q L).1 = 0
  · have hG : chkG Q L roots = (codeE (nonE Q roots) roots.length, fstE (nonE Q roots) roots.length) := chkG_ok h0
    go_enter Tryz.func36, Tryz.ntmps36
    go_wp2_with fail
    refine HCK.out.mono ?_
    rintro e w1 ⟨x, rfl, he, hb⟩
    have HB1 := hid hb
    rcases he.kind with ⟨_, rfl⟩ | ⟨h, _⟩
    · clear he hb HCK
      by_cases h1 : codeE (nonE Q roots) roots.length = 0
      · have hg0 : (chkG Q L roots).1 = 0 := by rw [hG]; exact h1
        go_wp2_with fail
        refine (HCM.out _ HB1.out).mono ?_
        rintro e w2 ⟨x, rfl, he, hb⟩
        have HB2 := hid (HB1.out.trans (hb.mono HB1.out.size))
        rcases he.kind with ⟨_, rfl⟩ | ⟨h, _⟩
        · clear he hb HCM
          by_cases h2 : codeE (nonE Q sel) sel.length = 0
          · go_wp2_with fail
            refine (HCS.out _ HB2.out).mono ?_
            rintro e w3 ⟨x, rfl, he, hb⟩
            have HB3 := hid (HB2.out.trans (hb.mono HB2.out.size))
            rcases he.kind with ⟨_, rfl⟩ | ⟨h, _⟩
            · clear he hb HCS
              have HSL := hid (HIS.out w3 HB3.out h0 h2)
              have HC := hid (chkC_ris (sel := sel) hg0 h2)
              clear h0 h1 h2 hG hg0 HIS
              cases hs : risB2 sel
              · rw [hs] at HSL HC
                clear hs
                go_wp2_with fail
                refine HSL.out.mono ?_
                rintro e w4 ⟨rfl, hb⟩
                have HB4 := hid (HB3.out.trans (hb.mono HB3.out.size))
                have g7 := (HS.out.below HB4.out).sen.g7
                clear hb
                go_wp2_with fail
                go_ret
                exact ⟨_, rfl, by rw [HC.out]; rfl, HB4.out⟩
              · rw [hs] at HSL HC
                clear hs
                go_wp2_with fail
                refine HSL.out.mono ?_
                rintro e w4 ⟨rfl, hb⟩
                have HB4 := hid (HB3.out.trans (hb.mono HB3.out.size))
                clear hb
                go_wp2_with fail
                go_ret
                exact ⟨_, rfl, by rw [HC.out]; rfl, HB4.out⟩
            · exact absurd h2 h
          · go_wp2_with fail
            refine (HCS.out _ HB2.out).mono ?_
            rintro e w3 ⟨x, rfl, he, hb⟩
            have HB3 := hid (HB2.out.trans (hb.mono HB2.out.size))
            have HE := hid he
            rcases he.kind with ⟨h, _⟩ | ⟨_, T, xa, rfl⟩
            · exact absurd h h2
            have HC := hid (chkC_sel hg0 h2)
            clear he hb HCS h0 h1 h2 hG hg0
            go_wp2_with fail
            go_ret
            exact ⟨_, rfl, by rw [HC.out]; exact HE.out, HB3.out⟩
        · exact absurd h1 h
      · go_wp2_with fail
        refine (HCM.out _ HB1.out).mono ?_
        rintro e w2 ⟨x, rfl, he, hb⟩
        have HB2 := hid (HB1.out.trans (hb.mono HB1.out.size))
        have HE := hid he
        rcases he.kind with ⟨h, _⟩ | ⟨_, T, xa, rfl⟩
        · exact absurd h h1
        have HC := hid (chkC_bad (sel := sel) (show (chkG Q L roots).1 ≠ 0 by rw [hG]; exact h1))
        rw [hG] at HC
        clear he hb HCM h0 h1 hG
        go_wp2_with fail
        go_ret
        exact ⟨_, rfl, by rw [HC.out]; exact HE.out, HB2.out⟩
    · exact absurd h0 h
  · have HC := hid (chkC_bad (sel := sel) (show (chkG Q L roots).1 ≠ 0 by rw [chkG_bad h0]; exact h0))
    rw [chkG_bad h0] at HC
    go_enter Tryz.func36, Tryz.ntmps36
    go_wp2_with fail
    refine HCK.out.mono ?_
    rintro e w1 ⟨x, rfl, he, hb⟩
    have HB1 := hid hb
    have HE := hid he
    rcases he.kind with ⟨h, _⟩ | ⟨_, T, xa, rfl⟩
    · exact absurd h h0
    clear he hb HCK h0
    go_wp2_with fail
    go_ret
    exact ⟨_, rfl, by rw [HC.out]; exact HE.out, HB1.out⟩
/-- Is a selection closed? -/
def closB (Q : List Raw) (L : List Ent) (roots sel : List Bm) : Bool := undB roots sel && sel.all fun m => undB (reqQ Q L m) sel
theorem reqQ_sz {Q : List Raw} {L : List Ent} (sh : ∀ e, e ∈ L → ShE e) (m : Bm) : (reqQ Q L m).length ≤ 1000000 ∧ ∀ x, x ∈ reqQ Q L m → x.1.size < 999999 ∧ x.2.size < 999999 := by
  unfold reqQ
  split
  · exact ⟨by simp, fun x hx => by cases hx⟩
  · cases h : L[(idxOf (isM m) Q).toNat]? with
    | none => exact ⟨by simp, fun x hx => by simp at hx⟩
    | some e =>
      have he := sh e (List.mem_of_getElem? h)
      exact ⟨he.rn, fun x hx => he.rs x hx⟩
set_option maxRecDepth 100000 in
set_option maxHeartbeats 4000000 in
theorem clK_any (Q : List Raw) (L : List Ent) (sel : List Bm) (x : Bm) (lb sb : Nat) (v sv : Value) (A : Nat → Addr) (m : Int) (W : World) (hn : L.length ≤ 1000) (hsn : sel.length ≤ 1000000) (hss : ∀ y, y ∈ sel → y.2.size < 999999) (sh : ∀ e, e ∈ L → ShE e) (hx : x ∈ univ L) (S : Te W A m) (I : Ixs W v Q L) (hs : MsAt W sv sel) (c0 : W.cell? ⟨lb, 0, none⟩ = some v) (c1 : W.cell? ⟨sb, 0, none⟩ = some sv) :
    Calls Tryz.prog 37 (#[.agg #[.string x.1, .string x.2]] ++ #[.pointer (some ⟨lb, 0, none⟩), .pointer (some ⟨sb, 0, none⟩)]) W fun e w' => e = .returned (.bool (!undB (reqQ Q L x) sel)) ∧ Below W.heap.size W w' := by
  obtain ⟨kq, hkq⟩ := (found_iff I x).1 hx
  obtain ⟨hkl, -⟩ := idx_is hkq
  have hkl2 : kq < L.length := by rw [← I.ln]; exact hkl
  have HB0 := hid ((Below.refl W.heap.size W).alloc (Nat.le_refl _) (.cells #[.string x.1, .string x.2] 46))
  have HFI := hid (fun W' (h : Below W.heap.size W W') => find_any Q x v W' (by rw [I.ln]; omega) (I.below h).es)
  rw [hkq] at HFI
  have HRS := hid (reqQ_sz (Q := Q) sh x)
  have HRQ := hid (reqQ_at hkq hkl2)
  have hkI : (kq : Int) < (Q.length : Int) := by omega
  have hk0 : (0 : Int) ≤ (kq : Int) := by omega
  obtain ⟨a, c, hv, -⟩ := id I.es
  subst hv
  have HES := hid (fun W' (h : Below W.heap.size W W') => es_cells (I.below h).es hkl)
  have HMS := hid (fun W' (h : Below W.heap.size W W') => ((I.below h).ok kq hkl hkl2).rq)
  rw [HRQ.out] at HRS ⊢
  generalize (L[kq]'hkl2).2.1 = R at *
  generalize (Q[kq]'hkl).2.1 = qv at *
  obtain ⟨qa, qc, hqv, -⟩ := HMS.out W (Below.refl _ _)
  subst hqv
  obtain ⟨sa, sc, hsv, -⟩ := id hs
  subst hsv
  have HUN := hid (fun W' (h : Below W.heap.size W W') => und_any R sel _ _ A m W' HRS.out.1 hsn (fun y hy => (HRS.out.2 y hy).2) hss (S.below h) (HMS.out W' h) (hs.below h))
  obtain ⟨eb, eo, ha, -⟩ := HES.out W (Below.refl _ _)
  subst ha
  have HCL := hid (fun W' (h : Below W.heap.size W W') => show W'.cell? ⟨lb, 0, none⟩ = some (.slice (some ⟨eb, eo, none⟩) Q.length c) ∧ W'.cell? ⟨sb, 0, none⟩ = some (.slice sa sel.length sc) from ⟨cell_below h c0, cell_below h c1⟩)
  have HX2 := hid (fun W' (h : Below W.heap.size W W') => show W'.cell? ⟨eb, eo + kq * 5 + 2, none⟩ = some (.slice qa R.length qc) by
    obtain ⟨eb', eo', e, h2⟩ := HES.out W' h
    injection e with e
    injection e with e1 e2
    subst e1 e2
    exact h2)
  obtain ⟨d0, d1⟩ := HCL.out _ HB0.out
  show Calls Tryz.prog 37 #[.agg #[.string x.1, .string x.2], .pointer (some ⟨lb, 0, none⟩), .pointer (some ⟨sb, 0, none⟩)] W _
  clear S I hs hkq hkl hkl2 hx HES HMS HRQ sh c0 c1 hss
  obtain ⟨Wa, hWa⟩ : ∃ Wa, W.alloc (.cells #[.string x.1, .string x.2] 46) = Wa := ⟨_, rfl⟩
  have b0 : Wa.cell? ⟨W.heap.size, 0, none⟩ = some (.string x.1) := by rw [← hWa]; simp
  have b1 : Wa.cell? ⟨W.heap.size, 1, none⟩ = some (.string x.2) := by rw [← hWa]; simp
  rw [hWa] at HB0 d0 d1
  have HW := hid (fun W' (hW : Below Wa.heap.size Wa W') => (HB0.out.trans (hW.mono HB0.out.size)))
  have HT := hid (fun W' (hW : Below Wa.heap.size Wa W') => (show (fun W' => W'.cell? ⟨lb, 0, none⟩ = some (.slice (some ⟨eb, eo, none⟩) Q.length c) ∧ W'.cell? ⟨sb, 0, none⟩ = some (.slice sa sel.length sc) ∧ W'.cell? ⟨W.heap.size, 0, none⟩ = some (.string x.1) ∧ W'.cell? ⟨W.heap.size, 1, none⟩ = some (.string x.2) ∧ W'.cell? ⟨eb, eo + kq * 5 + 2, none⟩ = some (.slice qa R.length qc) ∧ Hid (Below Wa.heap.size Wa W')) W' from ⟨(HCL.out W' (HW.out W' hW)).1, (HCL.out W' (HW.out W' hW)).2, cell_below hW b0, cell_below hW b1, HX2.out W' (HW.out W' hW), hid hW⟩))
  have x2 := HX2.out Wa HB0.out
  go_enter Tryz.func37, Tryz.ntmps37
  go_wp2_with fail
  clear hWa
  go_region_held (fun W' => W'.cell? ⟨lb, 0, none⟩ = some (.slice (some ⟨eb, eo, none⟩) Q.length c) ∧ W'.cell? ⟨sb, 0, none⟩ = some (.slice sa sel.length sc) ∧ W'.cell? ⟨W.heap.size, 0, none⟩ = some (.string x.1) ∧ W'.cell? ⟨W.heap.size, 1, none⟩ = some (.string x.2) ∧ W'.cell? ⟨eb, eo + kq * 5 + 2, none⟩ = some (.slice qa R.length qc) ∧ Hid (Below Wa.heap.size Wa W')) (first | exact HT.out _ HRb.out | exact HT.out _ HRa.out | exact HT.out _ (below_drawn _ 1)) (first
    | (go_at_call 38; refine (HFI.out _ (HW.out _ (below_drawn _ 1))).mono ?_; rintro e w' ⟨rfl, hb⟩; have HRa := hid ((below_drawn Wa 1).trans (hb.mono (Nat.le_refl _))); clear hb)
    | (go_at_call 19; refine (HUN.out _ (HW.out _ HRa.out)).mono ?_; rintro e w'' ⟨rfl, hb⟩; have HRb := hid (HRa.out.trans (hb.mono HRa.out.size)); clear hb))
  all_goals
    have HBe := hid (HW.out _ HRb.out)
    go_wp2_with fail
    go_ret
    exact ⟨rfl, HBe.out⟩
set_option maxRecDepth 100000 in
set_option maxHeartbeats 4000000 in
theorem closed_bad (Q : List Raw) (L : List Ent) (roots sel : List Bm) (v rv sv : Value) (A : Nat → Addr) (m : Int) (w : World) (hn : L.length ≤ 1000) (hrn : roots.length ≤ 1000000) (hsn : sel.length ≤ 500) (sh : ∀ e, e ∈ L → ShE e) (S : Te w A m) (I : Ixs w v Q L) (hr : MsAt w rv roots) (hs : MsAt w sv sel) (es : Em sv sel) (h0 : (chkC Q L roots sel).1 ≠ 0) :
    Calls Tryz.prog 16 #[v, rv, sv] w fun e w' => ∃ T a, e = .returned (.tuple #[.bool false, .iface T (.pointer (some a))]) ∧ ErrAt w' A (.iface T (.pointer (some a))) (chkC Q L roots sel).1 (chkC Q L roots sel).2 ∧ Below w.heap.size w w' := by
  have HB0 := hid (((Below.refl w.heap.size w).alloc (Nat.le_refl _) (.cells #[v] 22)).alloc (by simp) (.cells #[sv] 23))
  have HCK := hid (mcheck_all Q L roots sel v rv sv A m _ hn hrn hsn sh (S.below HB0.out) (I.below HB0.out) (hr.below HB0.out) (hs.below HB0.out) es)
  obtain ⟨a, c, hv, -⟩ := id I.es
  subst hv
  obtain ⟨ra, rc, hrv, -⟩ := id hr
  subst hrv
  obtain ⟨sa, sc, hsv, -⟩ := id hs
  subst hsv
  have H0 := hid h0
  clear S I hr hs es sh h0
  go_enter Tryz.func16, Tryz.ntmps16
  go_wp2_with fail
  refine HCK.out.mono ?_
  rintro e w1 ⟨x, rfl, he, hb⟩
  have HB1 := hid (HB0.out.trans (hb.mono HB0.out.size))
  have HE := hid he
  rcases he.kind with ⟨h, _⟩ | ⟨_, T, xa, rfl⟩
  · exact absurd h H0.out
  clear he hb HCK
  go_wp2_with fail
  go_ret2
  exact ⟨_, _, rfl, HE.out, HB1.out⟩
theorem chkC_good {w : World} {v : Value} {Q : List Raw} {L : List Ent} {roots sel : List Bm} (I : Ixs w v Q L) (h : (chkC Q L roots sel).1 = 0) : (chkG Q L roots).1 = 0 ∧ (∀ m, m ∈ sel → m ∈ univ L) ∧ risB2 sel = true := by
  by_cases h1 : (chkG Q L roots).1 = 0
  · have hc := (rgt_of I h1).c
    by_cases h2 : codeE (nonE Q sel) sel.length = 0
    · rw [chkC_ris h1 h2] at h
      refine ⟨h1, (rgt_of I (show (chkG Q L sel).1 = 0 by rw [chkG_ok hc]; exact h2)).r, ?_⟩
      cases hs : risB2 sel
      · rw [hs] at h; exact absurd h (by decide)
      · rfl
    · rw [chkC_sel h1 h2] at h; exact absurd h h2
  · rw [chkC_bad h1] at h; exact absurd h h1
theorem chkC_of {w : World} {v : Value} {Q : List Raw} {L : List Ent} {roots sel : List Bm} (I : Ixs w v Q L) (h1 : (chkG Q L roots).1 = 0) (h2 : ∀ m, m ∈ sel → m ∈ univ L) (h3 : risB2 sel = true) : (chkC Q L roots sel).1 = 0 := by
  have hc := (rgt_of I h1).c
  have h4 := chkG_in I hc h2
  rw [chkG_ok hc] at h4
  rw [chkC_ris h1 h4, h3]
  rfl
set_option maxRecDepth 100000 in
set_option maxHeartbeats 4000000 in
/-- mvs.Closed. -/
theorem closed_good (Q : List Raw) (L : List Ent) (roots sel : List Bm) (v rv sv : Value) (A : Nat → Addr) (m : Int) (w : World) (hn : L.length ≤ 1000) (hrn : roots.length ≤ 1000000) (hsn : sel.length ≤ 500) (sh : ∀ e, e ∈ L → ShE e) (S : Te w A m) (I : Ixs w v Q L) (hr : MsAt w rv roots) (hs : MsAt w sv sel) (es : Em sv sel) (h0 : (chkC Q L roots sel).1 = 0) :
    Calls Tryz.prog 16 #[v, rv, sv] w fun e w' => e = .returned (.tuple #[.bool (closB Q L roots sel), .nilIface]) ∧ Below w.heap.size w w' := by
  obtain ⟨hg, hsu, -⟩ := chkC_good I h0
  have hru := (rgt_of I hg).r
  have HB0 := hid (((Below.refl w.heap.size w).alloc (Nat.le_refl _) (.cells #[v] 22)).alloc (by simp) (.cells #[sv] 23))
  have HCK := hid (mcheck_all Q L roots sel v rv sv A m _ hn hrn hsn sh (S.below HB0.out) (I.below HB0.out) (hr.below HB0.out) (hs.below HB0.out) es)
  have HUN := hid (fun W (h : Below w.heap.size w W) => und_any roots sel rv sv A m W hrn (by omega) (fun y hy => (univ_szJ sh (hru y hy)).2) (fun y hy => (univ_szJ sh (hsu y hy)).2) (S.below h) (hr.below h) (hs.below h))
  have eg : ∀ args w, (callFunc 37 args).run Tryz.prog w = .ok (.enter 37 args) w := enters_of Tryz.func37 (by kernel_rfl) rfl
  have HHA := hid (fun W (h : Below w.heap.size w W) (c0 : W.cell? ⟨w.heap.size, 0, none⟩ = some v) (c1 : W.cell? ⟨w.heap.size + 1, 0, none⟩ = some sv) => hasM_any 37 #[.pointer (some ⟨w.heap.size, 0, none⟩), .pointer (some ⟨w.heap.size + 1, 0, none⟩)] (fun x => !undB (reqQ Q L x) sel) sel sv W eg (by omega) (hs.below h) (fun i hi W' hW => by
    have hb2 := h.trans (hW.mono h.size)
    exact clK_any Q L sel sel[i] w.heap.size (w.heap.size + 1) v sv A m W' hn (by omega) (fun y hy => (univ_szJ sh (hsu y hy)).2) sh (hsu _ (List.getElem_mem hi)) (S.below hb2) (I.below hb2) (hs.below hb2) (cell_below hW c0) (cell_below hW c1)))
  have HX := hid (show closB Q L roots sel = (undB roots sel && !(sel.any fun x => !undB (reqQ Q L x) sel)) by
    unfold closB
    congr 1
    rw [List.any_eq_not_all_not]
    simp)
  obtain ⟨a, c, hv, -⟩ := id I.es
  subst hv
  obtain ⟨ra, rc, hrv, -⟩ := id hr
  subst hrv
  obtain ⟨sa, sc, hsv, -⟩ := id hs
  subst hsv
  have H0 := hid h0
  generalize closB Q L roots sel = z at *
  generalize undB roots sel = zu at *
  generalize (sel.any fun x => !undB (reqQ Q L x) sel) = za at *
  clear S I hr hs es sh h0 hg hsu hru eg
  go_enter Tryz.func16, Tryz.ntmps16
  go_wp2_with fail
  refine HCK.out.mono ?_
  rintro e w1 ⟨x, rfl, he, hb⟩
  have HB1 := hid (HB0.out.trans (hb.mono HB0.out.size))
  have d0 : w1.cell? ⟨w.heap.size, 0, none⟩ = some (.slice a Q.length c) := cell_below hb (by simp)
  have d1 : w1.cell? ⟨w.heap.size + 1, 0, none⟩ = some (.slice sa sel.length sc) := cell_below hb (by simp)
  rcases he.kind with ⟨_, rfl⟩ | ⟨h, _⟩
  · clear he hb HCK
    have HU1 := hid (HUN.out w1 HB1.out)
    cases zu
    · go_wp2_with fail
      refine HU1.out.mono ?_
      rintro e w2 ⟨rfl, hb⟩
      have HB2 := hid (HB1.out.trans (hb.mono HB1.out.size))
      clear hb
      go_wp2_with fail
      go_ret2
      exact ⟨by rw [HX.out]; rfl, HB2.out⟩
    · go_wp2_with fail
      refine HU1.out.mono ?_
      rintro e w2 ⟨rfl, hb⟩
      have HB2 := hid (HB1.out.trans (hb.mono HB1.out.size))
      have f0 := cell_below hb d0
      have f1 := cell_below hb d1
      have HH1 := hid (HHA.out w2 HB2.out f0 f1)
      clear hb d0 d1
      go_wp2_with fail
      refine HH1.out.mono ?_
      rintro e w3 ⟨rfl, hb⟩
      have HB3 := hid (HB2.out.trans (hb.mono HB2.out.size))
      clear hb
      go_wp2_with fail
      go_ret2
      exact ⟨by rw [HX.out]; rfl, HB3.out⟩
  · exact absurd H0.out h
end Ve
end Go.Proofs.YtoaobngpdaidoaaGreatDoor

/-
  What is built, plain: of what is reached the last of each path; an index' facts.
-/
namespace Go.Proofs.YtoaobngpdaidoaaGreatDoor
open Go.RowKit Go.Maps
namespace Ve

theorem ix_lt {i n : Nat} (h : i < n) : (i : Int) < (n : Int) := Int.ofNat_lt.2 h
theorem ix_nlt {i n : Nat} (h : ¬ i < n) : ¬ (i : Int) < (n : Int) := fun e => h (Int.ofNat_lt.1 e)
theorem ix_pos (i : Nat) : (0 : Int) ≤ (i : Int) := Int.natCast_nonneg _
theorem ix_pos1 (i : Nat) : (0 : Int) ≤ (i : Int) + 1 := by omega
theorem ix_lt1 {i n : Nat} (h : i + 1 < n) : (i : Int) + 1 < (n : Int) := by omega
theorem ix_nlt1 {i n : Nat} (h : ¬ i + 1 < n) : ¬ (i : Int) + 1 < (n : Int) := by omega
theorem ix_nat1 (i : Nat) : ((i : Int) + 1).toNat = i + 1 := by omega
theorem ix_w1 {i n : Nat} (h : i < n) (hn : n ≤ 1000000) : wrap64 ((i : Int) + 1) = (i : Int) + 1 := IntWalk.wrap64_in _ (by omega)
theorem ix_k1 {i n : Nat} (h : i < n) (hn : n ≤ 1000000) : IntKind.i64.wrap ((i : Int) + 1) = (i : Int) + 1 := by rw [IntKind.wrap_i64] <;> omega
theorem ms_atJ {W : World} {b o n c : Nat} {X : List Bm} (h : MsAt W (.slice (some ⟨b, o, none⟩) n c) X) {k : Nat} (hk : k < X.length) : W.cell? ⟨b, o + k * 2, none⟩ = some (.string X[k].1) ∧ W.cell? ⟨b, o + k * 2 + 1, none⟩ = some (.string X[k].2) := by
  obtain ⟨b', o', e, h1⟩ := h.cells hk
  injection e with e
  injection e with e1 e2
  subst e1 e2
  exact h1
/-- Is one of the same path behind it? -/
def nextB (X : List Bm) (i : Nat) (p : ByteArray) : Bool := match X[i + 1]? with
  | some y => decide (y.1 = p)
  | none => false
/-- The last of each path, of the first ones. -/
def lastN (X : List Bm) : Nat → List Bm
  | 0 => []
  | i + 1 => lastN X i ++ match X[i]? with
    | some x => if nextB X i x.1 then [] else [x]
    | none => []
theorem lastN_skip {X : List Bm} {i : Nat} (h : i < X.length) (hb : nextB X i X[i].1 = true) : lastN X (i + 1) = lastN X i := by
  show lastN X i ++ _ = _
  rw [List.getElem?_eq_getElem h]
  simp only [hb, if_true, List.append_nil]
theorem lastN_keep {X : List Bm} {i : Nat} (h : i < X.length) (hb : nextB X i X[i].1 = false) : lastN X (i + 1) = lastN X i ++ [X[i]] := by
  show lastN X i ++ _ = _
  rw [List.getElem?_eq_getElem h]
  simp [hb]
theorem lastN_len (X : List Bm) : ∀ i, (lastN X i).length ≤ i
  | 0 => Nat.le_refl _
  | i + 1 => by
    have h := lastN_len X i
    show (lastN X i ++ _).length ≤ _
    rw [List.length_append]
    split
    · split
      · simp; omega
      · simp; omega
    · simp; omega
theorem nextB_at {X : List Bm} {i : Nat} {p : ByteArray} (h : i + 1 < X.length) : nextB X i p = decide (X[i + 1].1 = p) := by unfold nextB; rw [List.getElem?_eq_getElem h]
theorem nextB_end {X : List Bm} {i : Nat} {p : ByteArray} (h : ¬ i + 1 < X.length) : nextB X i p = false := by unfold nextB; rw [List.getElem?_eq_none (by omega)]
theorem lastN_over {X : List Bm} {n : Nat} (h : ¬ n < X.length) : lastN X (n + 1) = lastN X n := by
  show lastN X n ++ _ = _
  rw [List.getElem?_eq_none (by omega)]; simp
theorem lastN_mem {X : List Bm} {e : Bm} : ∀ n, e ∈ lastN X n ↔ ∃ i, ∃ h : i < X.length, i < n ∧ X[i] = e ∧ nextB X i X[i].1 = false
  | 0 => ⟨(fun h => by cases h), fun ⟨i, _, h, _⟩ => absurd h (Nat.not_lt_zero _)⟩
  | n + 1 => by
    have ih := lastN_mem (X := X) (e := e) n
    by_cases h : n < X.length
    · cases hb : nextB X n X[n].1
      · rw [lastN_keep h hb, List.mem_append, ih, List.mem_singleton]
        constructor
        · rintro (⟨i, hi, h1, h2, h3⟩ | rfl)
          · exact ⟨i, hi, by omega, h2, h3⟩
          · exact ⟨n, h, by omega, rfl, hb⟩
        · rintro ⟨i, hi, h1, h2, h3⟩
          rcases Nat.lt_or_ge i n with h4 | h4
          · exact Or.inl ⟨i, hi, h4, h2, h3⟩
          · have : i = n := by omega
            subst this; exact Or.inr h2.symm
      · rw [lastN_skip h hb, ih]
        constructor
        · rintro ⟨i, hi, h1, h2, h3⟩; exact ⟨i, hi, by omega, h2, h3⟩
        · rintro ⟨i, hi, h1, h2, h3⟩
          rcases Nat.lt_or_ge i n with h4 | h4
          · exact ⟨i, hi, h4, h2, h3⟩
          · have : i = n := by omega
            subst this; rw [hb] at h3; cases h3
    · rw [lastN_over h, ih]
      constructor
      · rintro ⟨i, hi, h1, h2, h3⟩; exact ⟨i, hi, by omega, h2, h3⟩
      · rintro ⟨i, hi, h1, h2, h3⟩; exact ⟨i, hi, by omega, h2, h3⟩
theorem lastN_rising {X : List Bm} (hX : X.Pairwise fun a b => mAhead a b = true) : ∀ n, n ≤ X.length → rising (lastN X n)
  | 0, _ => List.Pairwise.nil
  | n + 1, hn => by
    have ih := lastN_rising hX n (by omega)
    have h : n < X.length := by omega
    cases hb : nextB X n X[n].1
    · rw [lastN_keep h hb]
      refine List.pairwise_append.2 ⟨ih, List.pairwise_singleton _ _, fun a ha b hbb => ?_⟩
      rw [List.mem_singleton.1 hbb]
      obtain ⟨i, hi, h1, rfl, h3⟩ := (lastN_mem n).1 ha
      have hp := List.pairwise_iff_getElem.1 hX
      have h4 : i + 1 < X.length := by omega
      rw [nextB_at h4] at h3
      have h5 : X[i + 1].1 ≠ X[i].1 := of_decide_eq_false h3
      have h6 := hp i (i + 1) hi h4 (by omega)
      rw [ahead_other (fun e => h5 e.symm)] at h6
      rcases Nat.lt_or_ge (i + 1) n with h7 | h7
      · have h8 := hp (i + 1) n h4 h h7
        by_cases e : X[i + 1].1 = X[n].1
        · rw [← e]; exact h6
        · rw [ahead_other e] at h8; exact lt_trans h6 h8
      · have : n = i + 1 := by omega
        subst this; exact h6
    · rw [lastN_skip h hb]; exact ih
theorem ordV_selfJ {m : Bm} (h : mErr m = 0) : ordV (vb m) (vb m) ≤ 0 := by rw [(ordV_zero (mErr_zero h).2 (mErr_zero h).2).2 rfl]; omega
theorem lastN_top {X : List Bm} (hX : X.Pairwise fun a b => mAhead a b = true) (hr : ∀ m, m ∈ X → mErr m = 0) : ∀ (d i : Nat) (hi : i < X.length), X.length - i = d → ∃ e, e ∈ lastN X X.length ∧ e.1 = X[i].1 ∧ ordV (vb X[i]) (vb e) ≤ 0
  | 0, i, hi, h => by omega
  | d + 1, i, hi, h => by
    have hm := hr X[i] (List.getElem_mem hi)
    cases hb : nextB X i X[i].1
    · exact ⟨X[i], (lastN_mem _).2 ⟨i, hi, hi, rfl, hb⟩, rfl, ordV_selfJ hm⟩
    · by_cases h1 : i + 1 < X.length
      · rw [nextB_at h1] at hb
        have h2 : X[i + 1].1 = X[i].1 := of_decide_eq_true hb
        obtain ⟨e, he, e1, e2⟩ := lastN_top hX hr d (i + 1) h1 (by omega)
        have hm1 := hr X[i + 1] (List.getElem_mem h1)
        have h3 := List.pairwise_iff_getElem.1 hX i (i + 1) hi h1 (by omega)
        rw [ahead_same h2.symm, less_right (mErr_zero hm).2 (mErr_zero hm1).2] at h3
        have h4 := of_decide_eq_true h3
        have hme : mErr e = 0 := by
          obtain ⟨j, hj, _, rfl, _⟩ := (lastN_mem _).1 he
          exact hr _ (List.getElem_mem hj)
        exact ⟨e, he, e1.trans h2, ordV_le_trans (mErr_zero hm).2 (mErr_zero hm1).2 (mErr_zero hme).2 (Int.le_of_lt h4) e2⟩
      · rw [nextB_end h1] at hb; cases hb
/-- The last of each path: what is joined. -/
theorem lastN_jn {X : List Bm} (hX : X.Pairwise fun a b => mAhead a b = true) (hr : ∀ m, m ∈ X → mErr m = 0) : Jn X (lastN X X.length) := by
  refine ⟨lastN_rising hX _ (Nat.le_refl _), fun e he => ?_, fun x hx _ => ?_⟩
  · obtain ⟨j, hj, _, rfl, _⟩ := (lastN_mem _).1 he
    exact ⟨List.getElem_mem hj, hr _ (List.getElem_mem hj)⟩
  · obtain ⟨i, hi, rfl⟩ := List.getElem_of_mem hx
    exact lastN_top hX hr _ i hi rfl
/-- What is built. -/
noncomputable def bX (Q : List Raw) (L : List Ent) (roots : List Bm) : List Bm := lastN (rX Q L roots) (rX Q L roots).length
theorem bX_same {Q Q' : List Raw} {L : List Ent} (h : Q.map (fun r => r.1) = Q'.map (fun r => r.1)) (roots : List Bm) : bX Q L roots = bX Q' L roots := by unfold bX; rw [rX_same h]
theorem rX_rises {Q : List Raw} {L : List Ent} {roots : List Bm} : (rX Q L roots).Pairwise fun a b => mAhead a b = true := by
  by_cases h : (chkG Q L roots).1 = 0
  · unfold rX
    rw [if_pos h]
    have hc : (chk Q L).1 = 0 := by
      by_cases hc : (chk Q L).1 = 0
      · exact hc
      · rw [chkG_bad hc] at h; exact h
    exact List.Pairwise.filter _ (univ_rises hc)
  · rw [rX_bad h]; exact List.Pairwise.nil
theorem chkG_chk {Q : List Raw} {L : List Ent} {roots : List Bm} (h : (chkG Q L roots).1 = 0) : (chk Q L).1 = 0 := by
  by_cases hc : (chk Q L).1 = 0
  · exact hc
  · rw [chkG_bad hc] at h; exact h
theorem rX_right {Q : List Raw} {L : List Ent} {roots : List Bm} : ∀ m, m ∈ rX Q L roots → mErr m = 0 := fun m hm => by
  obtain ⟨h1, h2⟩ := rX_in hm
  exact univ_right (chkG_chk h1) m h2
theorem bX_jn (Q : List Raw) (L : List Ent) (roots : List Bm) : Jn (rX Q L roots) (bX Q L roots) := lastN_jn rX_rises rX_right
theorem bX_len {Q : List Raw} {L : List Ent} {roots : List Bm} : (bX Q L roots).length ≤ L.length := Nat.le_trans (lastN_len _ _) rX_len
theorem bX_bad {Q : List Raw} {L : List Ent} {roots : List Bm} (h : ¬ (chkG Q L roots).1 = 0) : bX Q L roots = [] := by unfold bX; rw [rX_bad h]; rfl
theorem bt_bX {w : World} {v : Value} {Q : List Raw} {L : List Ent} {roots E : List Bm} (I : Ixs w v Q L) (h : (chkG Q L roots).1 = 0) (hb : Bt Q L roots E) : E = bX Q L roots := by
  obtain ⟨T, h1, h2, _⟩ := hb.c
  rw [rX_go I h h1] at h2
  exact h2.one (bX_jn Q L roots) (fun _ _ => Iff.rfl)
theorem Mr.below {w0 W W' : World} {v : Value} {D : List Bm} (h : Mr w0 W v D) (hb : Below W.heap.size W W') : Mr w0 W' v D := by
  obtain ⟨h1, a, cap, rfl, hc, hk⟩ := h
  refine ⟨h1.trans (hb.mono h1.size), a, cap, rfl, hc, ?_⟩
  rcases hk with hk | ⟨g, rfl, hM⟩
  · exact Or.inl hk
  · exact Or.inr ⟨g, rfl, hM.below hb⟩
theorem box2J {W : World} {g : Nat} {x y : Value} {T : TypeId} (h : W.heap[g]? = some (.cells #[x, y] T (0, 0))) : W.cell? ⟨g, 0, none⟩ = some x ∧ W.cell? ⟨g, 1, none⟩ = some y ∧ ∀ o, W.frozen? ⟨g, o, none⟩ = false :=
  ⟨by rw [Lib.cell_of_heap h]; rfl, by rw [Lib.cell_of_heap h]; rfl, fun o => Lib.frozen_of_heap h o⟩
theorem mr_nil0 {w w' : World} (h : Below w.heap.size w w') : Mr w w' (.slice none 0 0) [] := ⟨h, none, 0, rfl, Nat.le_refl _, Or.inl ⟨rfl, fun _ => rfl⟩⟩
/-- mvs.Build. -/
theorem build_all (Q : List Raw) (L : List Ent) (roots : List Bm) (v rv : Value) (A : Nat → Addr) (m : Int) (w : World) (hn : L.length ≤ 1000) (hrn : roots.length ≤ 1000000) (sh : ∀ e, e ∈ L → ShE e) (S : Te w A m) (I : Ixs w v Q L) (hr : MsAt w rv roots) :
    Calls Tryz.prog 11 #[v, rv] w fun e w' => ∃ a c x, e = .returned (.tuple #[.slice a (bX Q L roots).length c, x]) ∧ Mr w w' (.slice a (bX Q L roots).length c) (bX Q L roots) ∧ ErrAt w' A x (rF Q L roots).1 (rF Q L roots).2 := by
  by_cases h : (chkG Q L roots).1 = 0
  · refine (build_good Q L roots v rv A m w hn hrn sh S I hr h).mono ?_
    rintro e w' ⟨u, E, rfl, hbt, hm⟩
    have he := bt_bX I h hbt
    subst he
    obtain ⟨a, c, hu⟩ := hm.sl
    subst hu
    exact ⟨a, c, _, rfl, hm, by rw [rF_good h]; rfl⟩
  · refine (build_bad Q L roots v rv A m w hn hrn sh S I hr h).mono ?_
    rintro e w' ⟨T, a, rfl, he, hb⟩
    rw [bX_bad h, rF_bad h]
    exact ⟨_, _, _, rfl, mr_nil0 hb, he⟩
end Ve
end Go.Proofs.YtoaobngpdaidoaaGreatDoor

/-
  What the document's answer builds (BuildOf), where it is refused.
-/
namespace Go.Proofs.YtoaobngpdaidoaaGreatDoor
open Go.RowKit Go.Maps
namespace Ve

set_option maxRecDepth 100000 in
set_option maxHeartbeats 4000000 in
theorem bo_bad (Q : List Raw) (L : List Ent) (roots : List Bm) (v rv : Value) (w : World) (hn : L.length ≤ 1000) (hrn : roots.length ≤ 1000000) (sh : ∀ e, e ∈ L → ShE e) (I : Ixs w v Q L) (hr : MsAt w rv roots) (h0 : ¬ (chkG Q L roots).1 = 0) :
    Calls Tryz.prog 13 #[v, rv] w fun e w' => e = .returned (.tuple #[.slice none 0 0, faultV (chkG Q L roots)]) ∧ Below w.heap.size w w' := by
  have HRO := hid (fun W (h : Below w.heap.size w W) => reachOf_bad Q L roots v rv W hn hrn sh (I.below h) (hr.below h) h0)
  have HB0 := hid ((Below.refl w.heap.size w).alloc (Nat.le_refl _) (.cells #[.int .i64 0, .int .i64 0] 34))
  have HE0 := hid (heap_new w (.cells #[.int .i64 0, .int .i64 0] 34))
  obtain ⟨a, c, hv1, -⟩ := id I.es
  subst hv1
  obtain ⟨ra, rc, hrv, -⟩ := id hr
  subst hrv
  obtain ⟨cc, oo, hco⟩ : ∃ cc oo, chkG Q L roots = (cc, oo) := ⟨_, _, rfl⟩
  rw [hco] at HRO h0 ⊢
  unfold faultV at HRO ⊢
  simp only at HRO h0 ⊢
  generalize atOf oo = ao at *
  have hpos : (0 : Int) < (cc : Int) := by omega
  clear I hr sh h0 hco
  go_enter Tryz.func13, Tryz.ntmps13
  go_wp2_with fail
  refine (HRO.out _ HB0.out).mono ?_
  rintro e w1 ⟨rfl, hb⟩
  have HB1 := hid (HB0.out.trans (hb.mono HB0.out.size))
  have HE1 := hid ((hb.block _ (lt_of_blk HE0.out)).trans HE0.out)
  clear hb
  have HB2 := hid (HB1.out.alloc HB1.out.size (.cells #[.int .i64 (cc : Int), .int .i64 ao] 34))
  have HE2 := hid (heap_old w1 (.cells #[.int .i64 (cc : Int), .int .i64 ao] 34) HE1.out)
  have HF2 := hid (heap_new w1 (.cells #[.int .i64 (cc : Int), .int .i64 ao] 34))
  have hlt := lt_of_blk HE1.out
  have hne : ¬ w1.heap.size = w.heap.size := by omega
  have hne2 : ¬ w.heap.size = w1.heap.size := by omega
  go_wp2_with fail
  generalize w1.alloc (.cells #[.int .i64 (cc : Int), .int .i64 ao] 34) = w2 at *
  obtain ⟨s0, s1, tf⟩ := box_two HE2.out
  obtain ⟨f0, f1, _⟩ := box_two HF2.out
  go_region_with fail
  all_goals
    go_wp2_with fail
    refine bodyPost_ret (v := .tuple #[.slice none 0 0, .agg #[.int .i64 (cc : Int), .int .i64 ao]]) (by simp [results, Tryz.results13, go_sem, s0, s1]) rfl ⟨rfl, ?_⟩
    exact put2_below (below_drawn_of HB2.out 1) (Nat.le_refl _)
end Ve
end Go.Proofs.YtoaobngpdaidoaaGreatDoor

/-
  What the document's answer builds (BuildOf).
-/
namespace Go.Proofs.YtoaobngpdaidoaaGreatDoor
open Go.RowKit Go.Maps
namespace Ve

set_option maxRecDepth 100000 in
set_option maxHeartbeats 4000000 in
theorem bo_good (Q : List Raw) (L : List Ent) (roots : List Bm) (v rv : Value) (w : World) (hn : L.length ≤ 1000) (hrn : roots.length ≤ 1000000) (sh : ∀ e, e ∈ L → ShE e) (I : Ixs w v Q L) (hr : MsAt w rv roots) (h0 : (chkG Q L roots).1 = 0) :
    Calls Tryz.prog 13 #[v, rv] w fun e w' => ∃ u, e = .returned (.tuple #[u, .agg #[.int .i64 0, .int .i64 (-1)]]) ∧ w'.ownsRow w.heap.size 46 2 u (lastN (rX Q L roots) (rX Q L roots).length).length (flatM (lastN (rX Q L roots) (rX Q L roots).length)) ∧ Below w.heap.size w w' := by
  have HRO := hid (fun W (h : Below w.heap.size w W) => reachOf_all Q L roots v rv W hn hrn sh (I.below h) (hr.below h))
  rw [rF_good h0] at HRO
  rw [faultV0] at HRO
  have HB0 := hid ((Below.refl w.heap.size w).alloc (Nat.le_refl _) (.cells #[.int .i64 0, .int .i64 0] 34))
  have HE0 := hid (heap_new w (.cells #[.int .i64 0, .int .i64 0] 34))
  have HXL := hid (show (rX Q L roots).length ≤ 1000 from Nat.le_trans rX_len hn)
  obtain ⟨i0, hi0, hz0, hz1, hz2⟩ := info_parts infoMod
  obtain ⟨a, c, hv1, -⟩ := id I.es
  subst hv1
  obtain ⟨ra, rc, hrv, -⟩ := id hr
  subst hrv
  have HFN := hid (fun W => fine_any W)
  clear I hr sh h0
  generalize rX Q L roots = X at *
  have HXM := hid (show X.length ≤ 1000000 from Nat.le_trans HXL.out (by decide))
  go_enter Tryz.func13, Tryz.ntmps13
  go_wp2_with fail
  refine (HRO.out _ HB0.out).mono ?_
  rintro e w1 ⟨xa, xc, rfl, hms, hb⟩
  have HB1 := hid (HB0.out.trans (hb.mono HB0.out.size))
  have HE1 := hid ((hb.block _ (lt_of_blk HE0.out)).trans HE0.out)
  have HB2 := hid (HB1.out.alloc HB1.out.size (.cells #[.int .i64 0, .int .i64 (-1)] 34))
  have HE2 := hid (heap_old w1 (.cells #[.int .i64 0, .int .i64 (-1)] 34) HE1.out)
  have HMX := hid (hms.below ((Below.refl w1.heap.size w1).alloc (Nat.le_refl _) (.cells #[.int .i64 0, .int .i64 (-1)] 34)))
  have hne : ¬ w1.heap.size = w.heap.size := Nat.ne_of_gt (lt_of_blk HE1.out)
  have hne2 : ¬ w.heap.size = w1.heap.size := Nat.ne_of_lt (lt_of_blk HE1.out)
  clear hb hms HRO
  go_wp2_with fail
  generalize w1.alloc (.cells #[.int .i64 0, .int .i64 (-1)] 34) = w2 at *
  have HW2 := hid (lt_of_blk HE2.out)
  clear HB1 HE1 HB0 HE0
  go_loopw [8, 9] (fun ov iv wr => ∃ i : Nat, i ≤ X.length ∧ iv = .int .i64 i ∧ Hid (wr.ownsRow w2.heap.size 46 2 ov (lastN X i).length (flatM (lastN X i))) ∧ Hid (Below w2.heap.size w2 wr)) (fun _ iv _ => X.length - (intOf iv).toNat)
  case atStart => exact ⟨0, Nat.zero_le _, rfl, hid (World.ownsRow_nil _ _ _ _), hid (Below.refl _ _)⟩
  case round =>
    obtain ⟨i, hi, rfl, HOW, HBr⟩ := hrel
    by_cases hlt2 : i < X.length
    · have hiI := ix_lt hlt2
      have hii := ix_pos i
      have HLI := hid hlt2
      obtain ⟨SX, HSX⟩ : ∃ SX, Hid (lastN X i = SX) := ⟨_, hid rfl⟩
      rw [HSX.out] at HOW
      have HSL := hid (show SX.length ≤ 1000 by rw [← HSX.out]; exact Nat.le_trans (lastN_len X i) (Nat.le_trans (Nat.le_of_lt hlt2) HXL.out))
      obtain ⟨xb, xo, hxa, y0, y1⟩ := (HMX.out.below HBr.out).cells hlt2
      subst hxa
      have kw64 := ix_w1 hlt2 HXM.out
      have ktn := ix_nat1 i
      have kwk := ix_k1 hlt2 HXM.out
      have hj0 := ix_pos1 i
      by_cases hnx : i + 1 < X.length
      · have hjI := ix_lt1 hnx
        obtain ⟨z0, z1⟩ := ms_atJ (HMX.out.below HBr.out) hnx
        have HNB := hid (nextB_at (p := X[i].1) hnx)
        by_cases hpe : X[i + 1].1 = X[i].1
        · have HST := hid (lastN_skip hlt2 (HNB.out.trans (decide_eq_true hpe)))
          rw [hpe] at z0
          rw [HSX.out] at HST
          clear HNB
          generalize X[i] = um at *
          obtain ⟨up, uq⟩ := um
          simp only at y0 y1 z0
          clear hlt2 hnx hpe z1
          have heq := str_refl up
          go_wp2_with fail
          go_quiet (fail)
          have HBd := hid (below_drawn_of HBr.out nq)
          have HOd := hid (owns_below HOW.out (below_drawn wr nq))
          go_wp2_with fail
          go_roundw
          case rel => first | exact ⟨i + 1, HLI.out, nr_idx i, hid (by rw [HST.out]; exact HOd.out), HBd⟩ | exact ⟨i + 1, HLI.out, nx_idx HLI.out HXM.out, hid (by rw [HST.out]; exact HOd.out), HBd⟩
          case measure => first | exact nr_meas HLI.out | exact nx_meas HLI.out HXM.out
        · have HST := hid (lastN_keep hlt2 (HNB.out.trans (decide_eq_false hpe)))
          clear HNB
          generalize X[i + 1] = un at *
          obtain ⟨np, nq⟩ := un
          clear hnx z1
          rw [HSX.out] at HST
          generalize X[i] = um at *
          obtain ⟨up, uq⟩ := um
          simp only at y0 y1 z0 hpe
          have heq := str_ne hpe
          clear hlt2 hpe
          go_wp2_with fail
          go_quiet (fail)
          have HDx := hid (below_drawn wr nq)
          have HBd := hid (below_drawn_of HBr.out nq)
          have HOd := hid (owns_below HOW.out HDx.out)
          obtain ⟨wx, hwx⟩ : ∃ wz0, wr.drewN nq = wz0 := ⟨_, rfl⟩
          rw [hwx] at HDx HBd HOd ⊢
          replace y0 := cell_below HDx.out y0
          replace y1 := cell_below HDx.out y1
          clear hwx nq z0
          go_wp2_with (at_builtin; refine wpList_append_own _ rfl _ _ 23 rfl w2.heap.size 46 i0 _ 2 32 Tryz.underlying23 hi0 hz0 hz1 hz2 rfl (by decide) _ _ _ rfl (HOd.out.alloc _) ⟨wx.heap.size, 0, none⟩ 1 1 [.string up, .string uq] rfl rfl (World.news_of_block (heap_new _ _)) (by intro u hu; simp at hu; rcases hu with rfl | rfl <;> rfl) (Nat.le_trans (Nat.add_le_add_right HSL.out 1) (by unfold maxLen; decide)) (by have hz := HSL.out; omega) (Nat.le_trans HBd.out.size (by simp)) ?_)
          intro v' w6 hown hgrow _
          have HR3 := hid (rel_app2 HBd.out.size HBd.out HOd.out (Below.refl _ _) hgrow)
          have HO4 := hid (show w6.ownsRow w2.heap.size 46 2 v' (SX ++ [(up, uq)]).length (flatM (SX ++ [(up, uq)])) by rw [List.length_append, flatM_app]; exact hown)
          clear hown hgrow
          go_wp2_with fail
          go_roundw
          case rel => first | exact ⟨i + 1, HLI.out, nr_idx i, hid (by rw [HST.out]; exact HO4.out), HR3⟩ | exact ⟨i + 1, HLI.out, nx_idx HLI.out HXM.out, hid (by rw [HST.out]; exact HO4.out), HR3⟩
          case measure => first | exact nr_meas HLI.out | exact nx_meas HLI.out HXM.out
      · have hjI := ix_nlt1 hnx
        have HST := hid (lastN_keep hlt2 (nextB_end hnx))
        clear hnx
        rw [HSX.out] at HST
        generalize X[i] = um at *
        obtain ⟨up, uq⟩ := um
        simp only at y0 y1
        clear hlt2
        go_wp2_with (at_builtin; refine wpList_append_own _ rfl _ _ 23 rfl w2.heap.size 46 i0 _ 2 32 Tryz.underlying23 hi0 hz0 hz1 hz2 rfl (by decide) _ _ _ rfl (HOW.out.alloc _) ⟨wr.heap.size, 0, none⟩ 1 1 [.string up, .string uq] rfl rfl (World.news_of_block (heap_new _ _)) (by intro u hu; simp at hu; rcases hu with rfl | rfl <;> rfl) (Nat.le_trans (Nat.add_le_add_right HSL.out 1) (by unfold maxLen; decide)) (by have hz := HSL.out; omega) (Nat.le_trans HBr.out.size (by simp)) ?_)
        intro v' w6 hown hgrow _
        have HR3 := hid (rel_app2 HBr.out.size HBr.out HOW.out (Below.refl _ _) hgrow)
        have HO4 := hid (show w6.ownsRow w2.heap.size 46 2 v' (SX ++ [(up, uq)]).length (flatM (SX ++ [(up, uq)])) by rw [List.length_append, flatM_app]; exact hown)
        clear hown hgrow
        go_wp2_with fail
        go_roundw
        case rel => first | exact ⟨i + 1, HLI.out, nr_idx i, hid (by rw [HST.out]; exact HO4.out), HR3⟩ | exact ⟨i + 1, HLI.out, nx_idx HLI.out HXM.out, hid (by rw [HST.out]; exact HO4.out), HR3⟩
        case measure => first | exact nr_meas HLI.out | exact nx_meas HLI.out HXM.out
    · have hiI := ix_nlt hlt2
      have hie : i = X.length := Nat.le_antisymm hi (Nat.le_of_not_lt hlt2)
      have HOF := hid (show wr.ownsRow w2.heap.size 46 2 u8 (lastN X X.length).length (flatM (lastN X X.length)) by
        have h := HOW.out
        rw [hie] at h
        exact h)
      clear hlt2 HOW hie
      obtain ⟨oa, on, oc, hov⟩ := own_sl HOF.out
      subst hov
      go_wp2_with fail
      refine (HFN.out _).mono ?_
      rintro e w6 ⟨rfl, hb⟩
      have HB6 := hid ((HB2.out.trans (HBr.out.mono HB2.out.size)).trans (hb.mono (Nat.le_trans HB2.out.size HBr.out.size)))
      have HE6 := hid ((hb.block _ (Nat.lt_of_lt_of_le (lt_of_blk HE2.out) HBr.out.size)).trans ((HBr.out.block _ (lt_of_blk HE2.out)).trans HE2.out))
      have HO6 := hid (owns_below HOF.out hb)
      clear hb
      obtain ⟨s0, s1, tf⟩ := box_two HE6.out
      have hnb : (Value.slice oa on oc).ownBlock ≠ some w.heap.size := fun h => by
        exact Nat.not_le_of_lt HW2.out (own_lt HO6.out h).2
      have HO7 := hid (own_base (owns_set (o := 1) (x := .int .i64 (-1)) (owns_set (o := 0) (x := .int .i64 0) HO6.out hnb) hnb) (Nat.le_of_lt HW2.out))
      go_wp2_with fail
      refine bodyPost_ret (v := .tuple #[.slice oa on oc, .agg #[.int .i64 0, .int .i64 (-1)]]) (by simp [results, Tryz.results13, go_sem, s0, s1]) rfl ⟨_, rfl, HO7.out, ?_⟩
      exact put2_below HB6.out (Nat.le_refl _)
/-- BuildOf. -/
theorem bo_all (Q : List Raw) (L : List Ent) (roots : List Bm) (v rv : Value) (w : World) (hn : L.length ≤ 1000) (hrn : roots.length ≤ 1000000) (sh : ∀ e, e ∈ L → ShE e) (I : Ixs w v Q L) (hr : MsAt w rv roots) :
    Calls Tryz.prog 13 #[v, rv] w fun e w' => ∃ a c, e = .returned (.tuple #[.slice a (bX Q L roots).length c, faultV (rF Q L roots)]) ∧ Mr w w' (.slice a (bX Q L roots).length c) (bX Q L roots) := by
  by_cases h : (chkG Q L roots).1 = 0
  · refine (bo_good Q L roots v rv w hn hrn sh I hr h).mono ?_
    rintro e w' ⟨u, rfl, hown, hb⟩
    have hm := mr_own hown hb
    obtain ⟨a, c, hu⟩ := hm.sl
    subst hu
    exact ⟨a, c, by rw [rF_good h]; rfl, hm⟩
  · refine (bo_bad Q L roots v rv w hn hrn sh I hr h).mono ?_
    rintro e w' ⟨rfl, hb⟩
    rw [bX_bad h, rF_bad h]
    exact ⟨_, _, rfl, mr_nil0 hb⟩
end Ve
end Go.Proofs.YtoaobngpdaidoaaGreatDoor

/-
  What is built is closed, and the least (plain).
-/
namespace Go.Proofs.YtoaobngpdaidoaaGreatDoor
open Go.RowKit Go.Maps
namespace Ve

theorem hasV_iff {B : List Bm} {m : Bm} : hasV B m = true ↔ ∃ x, atP B m.1 = some x ∧ lessB (vb x) (vb m) = false := by
  unfold hasV
  cases h : atP B m.1 with
  | none => simp
  | some x => simp
theorem atP_mem {B : List Bm} {p : ByteArray} {x : Bm} (h : atP B p = some x) : x ∈ B ∧ x.1 = p := by
  unfold atP at h
  exact ⟨List.mem_of_find?_eq_some h, by have := List.find?_some h; simpa using this⟩
theorem less_le {a b : Bm} (ha : mErr a = 0) (hb : mErr b = 0) : lessB (vb a) (vb b) = false ↔ ordV (vb b) (vb a) ≤ 0 := by
  rw [less_right (mErr_zero ha).2 (mErr_zero hb).2]
  simp only [decide_eq_false_iff_not]
  rw [ordV_swap (vb b) (vb a)]
  omega
theorem bt_mem {w : World} {v : Value} {Q : List Raw} {L : List Ent} {roots : List Bm} {T : By} (I : Ixs w v Q L) (h : Came (reqQ Q L) (univ L) roots T) {m : Bm} : m ∈ goM T Q ↔ Rch (reqQ Q L) roots m := goM_mem I h
/-- What is reached lies in the index. -/
theorem rch_univ {w : World} {v : Value} {Q : List Raw} {L : List Ent} {roots : List Bm} (I : Ixs w v Q L) (h : (chkG Q L roots).1 = 0) {m : Bm} (hm : Rch (reqQ Q L) roots m) : m ∈ univ L := by
  have r := rgt_of I h
  induction hm with
  | root hr => exact r.r _ hr
  | step _ hr ih => exact chk_reqs0 I r.c _ ih _ hr
/-- All that is built is reached, and of each that is reached there is no less. -/
theorem Bt.in_ {w : World} {v : Value} {Q : List Raw} {L : List Ent} {roots E : List Bm} (I : Ixs w v Q L) (h : Bt Q L roots E) {m : Bm} (hm : m ∈ E) : Rch (reqQ Q L) roots m := by
  obtain ⟨T, c, j, _⟩ := h.c
  exact (bt_mem I c).1 (j.sub m hm).1
theorem Bt.has {w : World} {v : Value} {Q : List Raw} {L : List Ent} {roots E : List Bm} (I : Ixs w v Q L) (h : Bt Q L roots E) (h0 : (chkG Q L roots).1 = 0) {A : List Bm} (hA : ∀ m, m ∈ A → Rch (reqQ Q L) roots m) : undB A E = true := by
  obtain ⟨T, c, j, _⟩ := h.c
  exact j.over fun m hm => ⟨(bt_mem I c).2 (hA m hm), univ_right (rgt_of I h0).c m (rch_univ I h0 (hA m hm))⟩
theorem Bt.ri {Q : List Raw} {L : List Ent} {roots E : List Bm} (h : Bt Q L roots E) : rising E := by
  obtain ⟨T, c, j, _⟩ := h.c
  exact j.ri
/-- What is built is closed. -/
theorem Bt.closed {w : World} {v : Value} {Q : List Raw} {L : List Ent} {roots E : List Bm} (I : Ixs w v Q L) (h : Bt Q L roots E) (h0 : (chkG Q L roots).1 = 0) : (chkC Q L roots E).1 = 0 ∧ closB Q L roots E = true := by
  refine ⟨chkC_of I h0 (fun m hm => rch_univ I h0 (h.in_ I hm)) (risB2_iff.2 h.ri), ?_⟩
  unfold closB
  rw [h.has I h0 (fun m hm => .root hm), Bool.true_and, List.all_eq_true]
  exact fun m hm => h.has I h0 (fun x hx => .step (h.in_ I hm) hx)
/-- Built again of itself it is itself. -/
theorem Bt.again {w : World} {v : Value} {Q : List Raw} {L : List Ent} {roots E E' : List Bm} (I : Ixs w v Q L) (h : Bt Q L roots E) (h' : Bt Q L E E') : E' = E := by
  obtain ⟨T, c, j, _⟩ := h.c
  obtain ⟨T', c', j', _⟩ := h'.c
  have up : ∀ x, Rch (reqQ Q L) E x → Rch (reqQ Q L) roots x := fun x hx => by
    induction hx with
    | root hr => exact h.in_ I hr
    | step _ hr ih => exact .step ih hr
  have jE : Jn (goM T' Q) E := ⟨j.ri, fun e he => ⟨(bt_mem I c').2 (.root he), (j.sub e he).2⟩, fun x hx hr => j.top x ((bt_mem I c).2 (up x ((bt_mem I c').1 hx))) hr⟩
  exact j'.one jE (fun _ _ => Iff.rfl)
/-- More roots build no less. -/
theorem Bt.more {w : World} {v : Value} {Q : List Raw} {L : List Ent} {a b E F : List Bm} (I : Ixs w v Q L) (h : Bt Q L a E) (h' : Bt Q L (a ++ b) F) (h0 : (chkG Q L (a ++ b)).1 = 0) : undB E F = true :=
  h'.has I h0 fun _ hm => (h.in_ I hm).mono fun _ hx => List.mem_append_left _ hx
theorem Bt.sz {w : World} {v : Value} {Q : List Raw} {L : List Ent} {a E : List Bm} (h : Bt Q L a E) (I : Ixs w v Q L) (sh : ∀ e, e ∈ L → ShE e) : ∀ r, r ∈ E → r.1.size < 999999 ∧ r.2.size < 999999 := fun r hr => by
  obtain ⟨T, _, j, _⟩ := h.c
  exact univ_szJ sh (goM_sub I (j.sub r hr).1)
theorem Bt.len {w : World} {v : Value} {Q : List Raw} {L : List Ent} {a E : List Bm} (h : Bt Q L a E) (I : Ixs w v Q L) : E.length ≤ L.length := by
  obtain ⟨T, _, _, hl⟩ := h.c
  exact Nat.le_trans hl (goM_lenJ I T)
/-- Newer versions require no less. -/
def RiseP (L : List Ent) : Prop := ∀ i k (hi : i < L.length) (hk : k < L.length), i < k → L[i].1.1 = L[k].1.1 → undB L[i].2.1 L[k].2.1 = true
theorem univ_at {w : World} {v : Value} {Q : List Raw} {L : List Ent} (I : Ixs w v Q L) {m : Bm} (hm : m ∈ univ L) : ∃ i, ∃ hi : i < L.length, L[i].1 = m ∧ reqQ Q L m = L[i].2.1 := by
  obtain ⟨k, hk⟩ := (found_iff I m).1 hm
  obtain ⟨h1, h2⟩ := idx_is hk
  have h3 : k < L.length := by rw [← I.ln]; exact h1
  refine ⟨k, h3, ?_, reqQ_at hk h3⟩
  rw [← (I.ok k h1 h3).m]
  have := of_decide_eq_true h2
  exact Prod.ext this.1 this.2
theorem hasV_up {sel : List Bm} {m r : Bm} (hr : ∀ x, x ∈ sel → mErr x = 0) (hm0 : mErr m = 0) (hr0 : mErr r = 0) (hp : r.1 = m.1) (ho : ordV (vb m) (vb r) ≤ 0) (h : hasV sel r = true) : hasV sel m = true := by
  obtain ⟨s, h1, h2⟩ := hasV_iff.1 h
  have hs := hr s (atP_mem h1).1
  rw [hp] at h1
  exact hasV_iff.2 ⟨s, h1, (less_le hs hm0).2 (ordV_le_trans (mErr_zero hm0).2 (mErr_zero hr0).2 (mErr_zero hs).2 ho ((less_le hs hr0).1 h2))⟩
/-- Where newer versions require no less, what is reached is under each selection that is closed. -/
theorem rch_under {w : World} {v : Value} {Q : List Raw} {L : List Ent} {roots sel : List Bm} (I : Ixs w v Q L) (h0 : (chkC Q L roots sel).1 = 0) (hc : closB Q L roots sel = true) (hR : RiseP L) {m : Bm} (hm : Rch (reqQ Q L) roots m) : hasV sel m = true := by
  obtain ⟨hg, hsu, _⟩ := chkC_good I h0
  have hchk := (rgt_of I hg).c
  have rt := univ_right hchk
  unfold closB at hc
  rw [Bool.and_eq_true] at hc
  have hsel := List.all_eq_true.1 hc.2
  induction hm with
  | root hr => exact List.all_eq_true.1 hc.1 _ hr
  | @step p m hp hr ih =>
    have hpu := rch_univ I hg hp
    have hmu := chk_reqs0 I hchk p hpu m hr
    obtain ⟨s, hs1, hs2⟩ := hasV_iff.1 ih
    obtain ⟨hs3, hs4⟩ := atP_mem hs1
    have hsU := hsu s hs3
    have hsr := List.all_eq_true.1 (hsel s hs3)
    obtain ⟨i, hi, ei, qi⟩ := univ_at I hpu
    obtain ⟨k, hk, ek, qk⟩ := univ_at I hsU
    have hle := (less_le (rt s hsU) (rt p hpu)).1 hs2
    rcases Nat.lt_trichotomy i k with hik | hik | hik
    · have hu := hR i k hi hk hik (by rw [ei, ek]; exact hs4.symm)
      rw [← qi, ← qk] at hu
      obtain ⟨r, hr1, hr2⟩ := hasV_iff.1 (List.all_eq_true.1 hu m hr)
      obtain ⟨hr3, hr4⟩ := atP_mem hr1
      have hrU := chk_reqs0 I hchk s hsU r hr3
      exact hasV_up (fun x hx => rt x (hsu x hx)) (rt m hmu) (rt r hrU) hr4 ((less_le (rt r hrU) (rt m hmu)).1 hr2) (hsr r hr3)
    · subst hik
      have : p = s := ei.symm.trans ek
      subst this
      exact hsr m hr
    · have ha := List.pairwise_iff_getElem.1 (univ_rises hchk) k i (by simpa [univ] using hk) (by simpa [univ] using hi) hik
      simp only [univ, List.getElem_map] at ha
      rw [ei, ek, ahead_same hs4, less_right (mErr_zero (rt s hsU)).2 (mErr_zero (rt p hpu)).2] at ha
      have ha : ordV (vb s) (vb p) < 0 := of_decide_eq_true ha
      rw [ordV_swap (vb s) (vb p)] at hle
      omega
theorem Bt.least {w : World} {v : Value} {Q : List Raw} {L : List Ent} {roots sel E : List Bm} (I : Ixs w v Q L) (h : Bt Q L roots E) (h0 : (chkC Q L roots sel).1 = 0) (hc : closB Q L roots sel = true) (hR : RiseP L) : undB E sel = true := by
  unfold undB
  rw [List.all_eq_true]
  exact fun m hm => rch_under I h0 hc hR (h.in_ I hm)
end Ve
end Go.Proofs.YtoaobngpdaidoaaGreatDoor

/-
  What has and IsUnder of the document's answer say; what rises of the statements says.
-/
namespace Go.Proofs.YtoaobngpdaidoaaGreatDoor
open Go.RowKit Go.Maps
namespace Ve

theorem fpOf_kind (L : List Bm) (p : ByteArray) : (fpOf L p = -1 ∧ ∀ x, x ∈ L → decide (x.1 = p) = false) ∨ ∃ k, ∃ hk : k < L.length, fpOf L p = (k : Int) ∧ decide (L[k].1 = p) = true ∧ ∀ j (hj : j < L.length), j < k → decide (L[j].1 = p) = false := by
  unfold fpOf
  cases h : fstE (fpE L p) L.length with
  | none =>
    refine Or.inl ⟨rfl, fun x hx => decide_eq_false fun e => ?_⟩
    obtain ⟨j, hj, rfl⟩ := List.getElem_of_mem hx
    have := fstE_of_none h j hj
    rw [fpE_at hj, if_pos e] at this; cases this
  | some k =>
    obtain ⟨h1, h2, h3⟩ := fstE_of_some h
    refine Or.inr ⟨k, h1, rfl, decide_eq_true ?_, fun j hj hjk => decide_eq_false fun e => ?_⟩
    · rw [fpE_at h1] at h2
      by_cases e : L[k].1 = p
      · exact e
      · rw [if_neg e] at h2; exact absurd rfl h2
    · have := h3 j hjk
      rw [fpE_at hj, if_pos e] at this; cases this
set_option maxRecDepth 100000 in
set_option maxHeartbeats 2000000 in
/-- pewholderref2.has. -/
theorem has2_any (B : List Bm) (m : Bm) (v : Value) (w : World) (hB : B.length ≤ 1000000) (hs : ∀ x, x ∈ B → x.2.size < 999999) (hm : m.2.size < 999999) (hv : MsAt w v B) :
    Calls Tryz.prog 44 #[v, .agg #[.string m.1, .string m.2]] w fun e w' => e = .returned (.bool (hasV B m)) ∧ Below w.heap.size w w' := by
  obtain ⟨p, q⟩ := m
  simp only at hm
  have HB0 := hid ((Below.refl w.heap.size w).alloc (Nat.le_refl _) (.cells #[.string p, .string q] 46))
  have HF := hid (fp_is B p v _ hB (hv.below HB0.out))
  obtain ⟨va, vc, hv1, _, hvc⟩ := id hv
  subst hv1
  rcases fpOf_kind B p with ⟨e1, h2⟩ | ⟨k, hk, e1, h2, h3⟩
  · have HX := hid (hasV_none (m := (p, q)) h2)
    rw [e1] at HF
    clear hv hvc e1 h2
    go_enter Tryz.func44, Tryz.ntmps44
    go_wp2_with fail
    refine HF.out.mono ?_
    rintro e w1 ⟨rfl, rfl⟩
    go_wp2_with fail
    go_ret
    exact ⟨ret_bool (by rw [HX.out]), HB0.out⟩
  · have HX := hid (hasV_some (m := (p, q)) hk h2 h3)
    rw [e1] at HF
    obtain ⟨bb, o, hva, hcell⟩ := hvc (fun e => by rw [e] at hk; exact absurd hk (Nat.not_lt_zero _))
    subst hva
    have HC := hid (hcell k hk)
    have hz := hs B[k] (List.getElem_mem hk)
    have hk0 : ¬ (k : Int) < 0 := by omega
    have hkI : (k : Int) < (B.length : Int) := by omega
    generalize B[k] = x at *
    obtain ⟨x1, x2⟩ := x
    simp only at hz
    have HL := hid (fun W => isLess_any x2 q W hz hm)
    have y0 := cell_below HB0.out HC.out.1
    have y1 := cell_below HB0.out HC.out.2
    clear hv hvc e1 h2 h3 hcell hs
    go_enter Tryz.func44, Tryz.ntmps44
    go_wp2_with fail
    refine HF.out.mono ?_
    rintro e w1 ⟨rfl, rfl⟩
    obtain ⟨Wa, hWa⟩ : ∃ Wa, w.alloc (.cells #[.string p, .string q] 46) = Wa := ⟨_, rfl⟩
    have b0 : Wa.cell? ⟨w.heap.size, 0, none⟩ = some (.string p) := by rw [← hWa]; simp
    have b1 : Wa.cell? ⟨w.heap.size, 1, none⟩ = some (.string q) := by rw [← hWa]; simp
    rw [hWa] at HB0 y0 y1 ⊢
    have HT := hid (fun W' (hW : Below Wa.heap.size Wa W') => (show (fun W' => W'.cell? ⟨bb, o + k * 2, none⟩ = some (.string x1) ∧ W'.cell? ⟨bb, o + k * 2 + 1, none⟩ = some (.string x2) ∧ W'.cell? ⟨w.heap.size, 0, none⟩ = some (.string p) ∧ W'.cell? ⟨w.heap.size, 1, none⟩ = some (.string q) ∧ Hid (Below Wa.heap.size Wa W')) W' from ⟨cell_below hW y0, cell_below hW y1, cell_below hW b0, cell_below hW b1, hid hW⟩))
    clear hWa
    go_wp2_with fail
    go_region_held (fun W' => W'.cell? ⟨bb, o + k * 2, none⟩ = some (.string x1) ∧ W'.cell? ⟨bb, o + k * 2 + 1, none⟩ = some (.string x2) ∧ W'.cell? ⟨w.heap.size, 0, none⟩ = some (.string p) ∧ W'.cell? ⟨w.heap.size, 1, none⟩ = some (.string q) ∧ Hid (Below Wa.heap.size Wa W')) (first | exact HT.out _ HRa.out | exact HT.out _ (below_drawn _ 1)) (first
      | (go_at_call 59; refine (HL.out _).mono ?_; rintro e w' ⟨rfl, hb⟩; have HRa := hid ((below_drawn Wa 1).trans (hb.mono (Nat.le_refl _))); clear hb))
    all_goals
      have HB := hid (HB0.out.trans (HRa.out.mono HB0.out.size))
      go_wp2_with fail
      go_ret
      exact ⟨ret_bool (by rw [HX.out]), HB.out⟩
set_option maxHeartbeats 2000000 in
theorem isU_some (X B : List Bm) (b o c : Nat) (v : Value) (w : World) (hX : X.length ≤ 1000000) (hB : B.length ≤ 1000000) (hsX : ∀ x, x ∈ X → x.2.size < 999999) (hs : ∀ x, x ∈ B → x.2.size < 999999)
    (hc : ∀ j (h : j < X.length), w.cell? ⟨b, o + j * 2, none⟩ = some (.string X[j].1) ∧ w.cell? ⟨b, o + j * 2 + 1, none⟩ = some (.string X[j].2)) (hv : MsAt w v B) :
    Calls Tryz.prog 18 #[.slice (some ⟨b, o, none⟩) X.length c, v] w fun e w' => e = .returned (.bool (undB X B)) ∧ Below w.heap.size w w' := by
  have HC := hid hc
  have HH := hid (fun (m : Bm) (hm : m ∈ X) W (h : Below w.heap.size w W) => has2_any B m v W hB hs (hsX m hm) (hv.below h))
  have HT := hid (show (∀ j (h : j < X.length), hasV B X[j] = true) → undB X B = true from fun h => by
    unfold undB
    rw [List.all_eq_true]
    intro x hx
    obtain ⟨j, hj, rfl⟩ := List.getElem_of_mem hx
    exact h j hj)
  have HN := hid (show ∀ j (h : j < X.length), hasV B X[j] = false → undB X B = false from fun j hj h => by
    cases hu : undB X B
    · rfl
    · have := List.all_eq_true.1 hu X[j] (List.getElem_mem hj)
      rw [h] at this; cases this)
  obtain ⟨va, vc, hv1, -⟩ := id hv
  subst hv1
  generalize undB X B = z at *
  clear hc hv hs hsX
  go_enter Tryz.func18, Tryz.ntmps18
  go_wp2_with fail
  go_loopw [5] (fun i wr => ∃ k : Nat, k ≤ X.length ∧ i = .int .i64 k ∧ Hid (∀ j (h : j < X.length), j < k → hasV B X[j] = true) ∧ Hid (Below w.heap.size w wr)) (fun i _ => X.length - (intOf i).toNat)
  case atStart => exact ⟨0, Nat.zero_le _, rfl, hid (fun j _ hj => absurd hj (Nat.not_lt_zero _)), hid (Below.refl _ _)⟩
  case round =>
    obtain ⟨k, hk, rfl, HE, HBW⟩ := hrel
    by_cases hlt : k < X.length
    · have hx := cell_below HBW.out (HC.out k hlt).1
      have hy := cell_below HBW.out (HC.out k hlt).2
      have hkI : (k : Int) < (X.length : Int) := by omega
      have HLT := hid hlt
      have HHK := hid (HH.out X[k] (List.getElem_mem hlt) wr HBW.out)
      have HNX := hid (show hasV B X[k] = true → ∀ j (h : j < X.length), j < k + 1 → hasV B X[j] = true from fun h0 j h1 h3 => by
        rcases Nat.lt_or_ge j k with h | h
        · exact HE.out j h1 h
        · have : j = k := by omega
          subst this; exact h0)
      have HNK := hid (HN.out k hlt)
      generalize X[k] = x at *
      obtain ⟨x1, x2⟩ := x
      clear hlt
      cases hh : hasV B (x1, x2)
      · rw [hh] at HHK
        have HZ := hid (HNK.out hh)
        clear hh
        go_wp2_with fail
        refine HHK.out.mono ?_
        rintro e w1 ⟨rfl, hb⟩
        have HB1 := hid (HBW.out.trans (hb.mono HBW.out.size))
        clear hb
        go_wp2_with fail
        go_ret
        exact ⟨by rw [HZ.out]; rfl, HB1.out⟩
      · rw [hh] at HHK
        have HN2 := hid (HNX.out hh)
        clear hh
        go_wp2_with fail
        refine HHK.out.mono ?_
        rintro e w1 ⟨rfl, hb⟩
        have HB1 := hid (HBW.out.trans (hb.mono HBW.out.size))
        clear hb
        go_wp2_with fail
        go_roundw
        case rel => first | exact ⟨k + 1, HLT.out, nr_idx k, HN2, HB1⟩ | exact ⟨k + 1, HLT.out, nx_idx HLT.out hX, HN2, HB1⟩
        case measure => first | exact nr_meas HLT.out | exact nx_meas HLT.out hX
    · have hkI : ¬ (k : Int) < (X.length : Int) := by omega
      have HZ := hid (HT.out (fun j h => HE.out j h (by omega)))
      go_wp2_with fail
      go_ret
      exact ⟨by rw [HZ.out]; rfl, HBW.out⟩
theorem isU_none (a : Option Addr) (c : Nat) (v : Value) (B : List Bm) (w : World) (hv : MsAt w v B) : Calls Tryz.prog 18 #[.slice a 0 c, v] w fun e w' => e = .returned (.bool true) ∧ Below w.heap.size w w' := by
  obtain ⟨va, vc, hv1, -⟩ := id hv
  subst hv1
  clear hv
  go_enter Tryz.func18, Tryz.ntmps18
  go_wp2_with fail
  go_loopw [5] (fun i wr => i = .int .i64 0 ∧ wr = w) (fun i _ => 0)
  case atStart => exact ⟨rfl, rfl⟩
  case round =>
    obtain ⟨rfl, rfl⟩ := hrel
    go_wp2_with fail
    go_ret
    exact ⟨rfl, Below.refl _ _⟩
/-- pewholderref2.IsUnder. -/
theorem isU_any (X B : List Bm) (u v : Value) (w : World) (hX : X.length ≤ 1000000) (hB : B.length ≤ 1000000) (hsX : ∀ x, x ∈ X → x.2.size < 999999) (hs : ∀ x, x ∈ B → x.2.size < 999999) (hu : MsAt w u X) (hv : MsAt w v B) :
    Calls Tryz.prog 18 #[u, v] w fun e w' => e = .returned (.bool (undB X B)) ∧ Below w.heap.size w w' := by
  obtain ⟨a, c, rfl, _, h⟩ := hu
  cases X with
  | nil => exact isU_none a c v B w hv
  | cons x r =>
    obtain ⟨b, o, rfl, h2⟩ := h (by simp)
    exact isU_some (x :: r) B b o c v w hX hB hsX hs h2 hv
end Ve
end Go.Proofs.YtoaobngpdaidoaaGreatDoor

/-
  What the document's answer says of a selection (risePaths, ClosedOf).
-/
namespace Go.Proofs.YtoaobngpdaidoaaGreatDoor
open Go.RowKit Go.Maps
namespace Ve

theorem rp_none (a : Option Addr) (c : Nat) (w : World) : Calls Tryz.prog 42 #[.slice a 0 c] w fun e w' => e = .returned (.bool true) ∧ Below w.heap.size w w' := by
  go_enter Tryz.func42, Tryz.ntmps42
  go_wp2_with fail
  go_loopw [3] (fun i wr => i = .int .i64 1 ∧ wr = w) (fun i _ => 0)
  case atStart => exact ⟨rfl, rfl⟩
  case round =>
    obtain ⟨rfl, rfl⟩ := hrel
    go_wp2_with fail
    go_ret
    exact ⟨rfl, Below.refl _ _⟩
theorem leqB (a b : ByteArray) (X : World) : (binOp BinOp.leq 9 (.string a) (.string b)).run Tryz.prog X = .ok (.bool (!lt b a)) X := by rw [← noLess_lt]; exact leq_is a b X
set_option maxHeartbeats 2000000 in
theorem rp_some (L : List Bm) (b o c : Nat) (w : World) (hn : L.length ≤ 1000000) (h0 : 0 < L.length)
    (hc : ∀ j (h : j < L.length), w.cell? ⟨b, o + j * 2, none⟩ = some (.string L[j].1) ∧ w.cell? ⟨b, o + j * 2 + 1, none⟩ = some (.string L[j].2)) :
    Calls Tryz.prog 42 #[.slice (some ⟨b, o, none⟩) L.length c] w fun e w' => e = .returned (.bool (risB2 L)) ∧ Below w.heap.size w w' := by
  have HC := hid hc
  have HX := hid (show (∀ j (h : j + 1 < L.length), lt (L[j]'(by omega)).1 L[j + 1].1 = true) → risB2 L = true from fun h => risB2_all h)
  have HY := hid (show ∀ j (h : j + 1 < L.length), lt (L[j]'(by omega)).1 L[j + 1].1 = false → risB2 L = false from fun j h hne => risB2_not h hne)
  generalize risB2 L = z at *
  clear hc
  go_enter Tryz.func42, Tryz.ntmps42
  go_wp2_with fail
  go_loopw [3] (fun i wr => ∃ k : Nat, k + 1 ≤ L.length ∧ i = .int .i64 ((k : Int) + 1) ∧ Hid (∀ j (h : j + 1 < L.length), j < k → lt (L[j]'(by omega)).1 L[j + 1].1 = true) ∧ Hid (Below w.heap.size w wr)) (fun i _ => L.length - (intOf i).toNat)
  case atStart => exact ⟨0, h0, rfl, hid (fun j _ hj => absurd hj (Nat.not_lt_zero _)), hid (Below.refl _ _)⟩
  case round =>
    obtain ⟨k, hk, rfl, HE, HB⟩ := hrel
    by_cases hlt : k + 1 < L.length
    · have hx := cell_below HB.out (HC.out k (Nat.lt_of_succ_lt hlt)).1
      have hx' := cell_below HB.out (HC.out (k + 1) hlt).1
      have hge := fun W => leqB L[k + 1].1 (L[k]'(by omega)).1 W
      have hkI : (k : Int) + 1 < (L.length : Int) := by omega
      have kx1 : (0 : Int) ≤ (k : Int) + 1 := by omega
      have kx2 : (k : Int) + 1 - 1 = (k : Int) := by omega
      have kx3 : (k : Int) < (L.length : Int) := by omega
      have kx4 : (0 : Int) ≤ (k : Int) := by omega
      have ktn : ((k : Int) + 1).toNat = k + 1 := by omega
      have kw0 : wrap64 (k : Int) = (k : Int) := IntWalk.wrap64_in _ (by omega)
      have kw1 : IntKind.i64.wrap (k : Int) = (k : Int) := by rw [IntKind.wrap_i64] <;> omega
      have kw2 : wrap64 ((k : Int) + 1 + 1) = (k : Int) + 1 + 1 := IntWalk.wrap64_in _ (by omega)
      have HLT := hid hlt
      have HN := hid (show lt (L[k]'(by omega)).1 L[k + 1].1 = true → ∀ j (h : j + 1 < L.length), j < k + 1 → lt (L[j]'(by omega)).1 L[j + 1].1 = true from fun h0 j h1 h2 => by
        rcases Nat.lt_or_ge j k with h | h
        · exact HE.out j h1 h
        · have : j = k := by omega
          subst this; exact h0)
      have HYK := hid (HY.out k hlt)
      generalize (L[k]'(Nat.lt_of_succ_lt hlt)) = x at *
      generalize (L[k + 1]'hlt) = y at *
      obtain ⟨x1, x2⟩ := x
      obtain ⟨y1, y2⟩ := y
      simp only at hx hx' hge HN HYK
      clear hlt hk
      cases he : lt x1 y1 with
      | true =>
        have HN2 := hid (HN.out he)
        rw [he] at hge
        clear he HN HYK
        go_wp2_with fail
        go_quiet (fail)
        go_wp2_with fail
        go_roundw
        case rel => exact ⟨k + 1, HLT.out, by first | rfl | (simp only [kw2]; push_cast; rfl), HN2, hid (below_drawn_of HB.out _)⟩
        case measure =>
          have := HLT.out
          simp only [intOf]
          omega
      | false =>
        have HZ := hid (HYK.out he)
        rw [he] at hge
        clear he HN HYK
        go_wp2_with fail
        go_quiet (fail)
        go_wp2_with fail
        go_ret
        exact ⟨by rw [HZ.out]; rfl, below_drawn_of HB.out _⟩
    · have hkI : ¬ (k : Int) + 1 < (L.length : Int) := by omega
      have HZ := hid (HX.out (fun j h => HE.out j h (by omega)))
      go_wp2_with fail
      go_ret
      exact ⟨by rw [HZ.out]; rfl, HB.out⟩
/-- pewholderref2.risePaths. -/
theorem rp_any (L : List Bm) (v : Value) (w : World) (hv : MsAt w v L) (hn : L.length ≤ 1000000) :
    Calls Tryz.prog 42 #[v] w fun e w' => e = .returned (.bool (risB2 L)) ∧ Below w.heap.size w w' := by
  obtain ⟨a, c, rfl, _, h⟩ := hv
  cases L with
  | nil => exact rp_none a c w
  | cons x r =>
    obtain ⟨b, o, rfl, h2⟩ := h (by simp)
    exact rp_some (x :: r) b o c w hn (by simp) h2
set_option maxRecDepth 100000 in
set_option maxHeartbeats 4000000 in
theorem co_bad1 (Q : List Raw) (L : List Ent) (roots sel : List Bm) (v rv sv : Value) (w : World) (hn : L.length ≤ 1000) (_hrn : roots.length ≤ 1000000) (_hsn : sel.length ≤ 1000000) (sh : ∀ e, e ∈ L → ShE e) (I : Ixs w v Q L) (hr : MsAt w rv roots) (hs : MsAt w sv sel) (h0 : (chk Q L).1 ≠ 0) :
    Calls Tryz.prog 17 #[v, rv, sv] w fun e w' => e = .returned (.tuple #[.bool false, faultV (chk Q L)]) ∧ Below w.heap.size w w' := by
  have HB0 := hid ((Below.refl w.heap.size w).alloc (Nat.le_refl _) (.cells #[.int .i64 0, .int .i64 0] 34))
  have HE0 := hid (heap_new w (.cells #[.int .i64 0, .int .i64 0] 34))
  have HIF := hid (iFault_any Q L v _ hn sh (I.below HB0.out))
  obtain ⟨a, c, hv1, -⟩ := id I.es
  subst hv1
  obtain ⟨ra, rc, hrv, -⟩ := id hr
  subst hrv
  obtain ⟨sa, sc, hsv, -⟩ := id hs
  subst hsv
  obtain ⟨cc, oo, hco⟩ : ∃ cc oo, chk Q L = (cc, oo) := ⟨_, _, rfl⟩
  rw [hco] at HIF h0 ⊢
  unfold faultV at HIF ⊢
  simp only at HIF h0 ⊢
  generalize atOf oo = ao at *
  have hpos : (0 : Int) < (cc : Int) := by omega
  have hnz : ((cc : Int) == 0) = false := by simp; omega
  have hnz2 : ¬ (cc : Int) = 0 := by omega
  clear I hr hs sh h0 hco
  go_enter Tryz.func17, Tryz.ntmps17
  go_wp2_with fail
  refine HIF.out.mono ?_
  rintro e w1 ⟨rfl, hb⟩
  have HB1 := hid (HB0.out.trans (hb.mono HB0.out.size))
  have HE1 := hid ((hb.block _ (lt_of_blk HE0.out)).trans HE0.out)
  clear hb
  have HB2 := hid (HB1.out.alloc HB1.out.size (.cells #[.int .i64 (cc : Int), .int .i64 ao] 34))
  have HE2 := hid (heap_old w1 (.cells #[.int .i64 (cc : Int), .int .i64 ao] 34) HE1.out)
  have HF2 := hid (heap_new w1 (.cells #[.int .i64 (cc : Int), .int .i64 ao] 34))
  have HLT := hid (lt_of_blk HE1.out)
  have hne : ¬ w1.heap.size = w.heap.size := Nat.ne_of_gt (lt_of_blk HE1.out)
  have hne2 : ¬ w.heap.size = w1.heap.size := Nat.ne_of_lt (lt_of_blk HE1.out)
  go_wp2_with fail
  generalize w1.alloc (.cells #[.int .i64 (cc : Int), .int .i64 ao] 34) = w2 at *
  have HBx := HB2
  have HEx := HE2
  have HFx := HF2
  obtain ⟨s0, s1, tf⟩ := box_two HEx.out
  obtain ⟨f0, f1, _⟩ := box_two HFx.out
  go_region_with fail
  all_goals
    go_wp2_with fail
    refine bodyPost_ret (v := .tuple #[.bool false, .agg #[.int .i64 (cc : Int), .int .i64 ao]]) (by simp [results, Tryz.results17, go_sem, s0, s1]) rfl ⟨rfl, ?_⟩
    exact put2_below (below_drawn_of HBx.out 1) (Nat.le_refl _)
set_option maxRecDepth 100000 in
set_option maxHeartbeats 4000000 in
theorem co_bad2 (Q : List Raw) (L : List Ent) (roots sel : List Bm) (v rv sv : Value) (w : World) (hn : L.length ≤ 1000) (hrn : roots.length ≤ 1000000) (_hsn : sel.length ≤ 1000000) (sh : ∀ e, e ∈ L → ShE e) (I : Ixs w v Q L) (hr : MsAt w rv roots) (hs : MsAt w sv sel) (h0 : (chk Q L).1 = 0) (h1 : codeE (nonE Q roots) roots.length ≠ 0) :
    Calls Tryz.prog 17 #[v, rv, sv] w fun e w' => e = .returned (.tuple #[.bool false, faultV (codeE (nonE Q roots) roots.length, fstE (nonE Q roots) roots.length)]) ∧ Below w.heap.size w w' := by
  have HB0 := hid ((Below.refl w.heap.size w).alloc (Nat.le_refl _) (.cells #[.int .i64 0, .int .i64 0] 34))
  have HE0 := hid (heap_new w (.cells #[.int .i64 0, .int .i64 0] 34))
  have HIF := hid (iFault_any Q L v _ hn sh (I.below HB0.out))
  have HRF := hid (fun W (h : Below w.heap.size w W) => rFault_any Q roots v rv W (by rw [I.ln]; exact hn) hrn (I.below h).es (hr.below h))
  obtain ⟨a, c, hv1, -⟩ := id I.es
  subst hv1
  obtain ⟨ra, rc, hrv, -⟩ := id hr
  subst hrv
  obtain ⟨sa, sc, hsv, -⟩ := id hs
  subst hsv
  obtain ⟨oo0, hco⟩ : ∃ oo, chk Q L = (0, oo) := ⟨(chk Q L).2, Prod.ext h0 rfl⟩
  rw [hco] at HIF
  unfold faultV at HIF HRF
  simp only at HIF HRF
  generalize atOf oo0 = ao0 at *
  unfold faultV
  simp only
  generalize codeE (nonE Q roots) roots.length = rc0 at *
  generalize atOf (fstE (nonE Q roots) roots.length) = ar at *
  have hpos : (0 : Int) < (rc0 : Int) := by omega
  have hnz : ((rc0 : Int) == 0) = false := by simp; omega
  have hnz2 : ¬ (rc0 : Int) = 0 := by omega
  clear I hr hs sh h0 hco h1
  go_enter Tryz.func17, Tryz.ntmps17
  go_wp2_with fail
  refine HIF.out.mono ?_
  rintro e w1 ⟨rfl, hb⟩
  have HB1 := hid (HB0.out.trans (hb.mono HB0.out.size))
  have HE1 := hid ((hb.block _ (lt_of_blk HE0.out)).trans HE0.out)
  clear hb
  have HB2 := hid (HB1.out.alloc HB1.out.size (.cells #[.int .i64 0, .int .i64 ao0] 34))
  have HE2 := hid (heap_old w1 (.cells #[.int .i64 0, .int .i64 ao0] 34) HE1.out)
  have HF2 := hid (heap_new w1 (.cells #[.int .i64 0, .int .i64 ao0] 34))
  have HLT := hid (lt_of_blk HE1.out)
  have hne : ¬ w1.heap.size = w.heap.size := Nat.ne_of_gt (lt_of_blk HE1.out)
  have hne2 : ¬ w.heap.size = w1.heap.size := Nat.ne_of_lt (lt_of_blk HE1.out)
  go_wp2_with fail
  generalize hg2 : w1.alloc (.cells #[.int .i64 0, .int .i64 ao0] 34) = w2 at *
  clear hg2
  refine (HRF.out _ HB2.out).mono ?_
  rintro e w3 ⟨rfl, hb⟩
  have HB3a := hid (HB2.out.trans (hb.mono HB2.out.size))
  have HE3a := hid ((hb.block _ (lt_of_blk HE2.out)).trans HE2.out)
  have HF3a := hid ((hb.block _ (lt_of_blk HF2.out)).trans HF2.out)
  clear hb
  have HB3 := hid (put2_below (x := .int .i64 (rc0 : Int)) (y := .int .i64 ar) HB3a.out (Nat.le_of_lt HLT.out))
  have HE3 := hid (keep_set (fb := w1.heap.size) (o := 1) (x := .int .i64 ar) (keep_set (fb := w1.heap.size) (o := 0) (x := .int .i64 (rc0 : Int)) HE3a.out hne2) hne2)
  have HF3 := hid (set_block (o := 1) (x := .int .i64 ar) (set_block (o := 0) (x := .int .i64 (rc0 : Int)) HF3a.out))
  obtain ⟨g0, g1, gf⟩ := box_two HF3a.out
  go_wp2_with fail
  generalize hg3 : (w3.setCell ⟨w1.heap.size, 0, none⟩ (.int .i64 (rc0 : Int))).setCell ⟨w1.heap.size, 1, none⟩ (.int .i64 ar) = w3b at *
  clear hg3 g0 g1 gf
  have HF3 : Hid (w3b.heap[w1.heap.size]? = some (.cells #[.int .i64 (rc0 : Int), .int .i64 ar] 34 (0, 0))) := hid HF3.out
  have HBx := HB3
  have HEx := HE3
  have HFx := HF3
  obtain ⟨s0, s1, tf⟩ := box_two HEx.out
  obtain ⟨f0, f1, _⟩ := box_two HFx.out
  go_region_with fail
  all_goals
    go_wp2_with fail
    refine bodyPost_ret (v := .tuple #[.bool false, .agg #[.int .i64 (rc0 : Int), .int .i64 ar]]) (by simp [results, Tryz.results17, go_sem, s0, s1]) rfl ⟨rfl, ?_⟩
    exact put2_below (below_drawn_of HBx.out 1) (Nat.le_refl _)
set_option maxRecDepth 100000 in
set_option maxHeartbeats 4000000 in
theorem co_bad3 (Q : List Raw) (L : List Ent) (roots sel : List Bm) (v rv sv : Value) (w : World) (hn : L.length ≤ 1000) (hrn : roots.length ≤ 1000000) (hsn : sel.length ≤ 1000000) (sh : ∀ e, e ∈ L → ShE e) (I : Ixs w v Q L) (hr : MsAt w rv roots) (hs : MsAt w sv sel) (h0 : (chk Q L).1 = 0) (h1 : codeE (nonE Q roots) roots.length = 0) (h2 : codeE (nonE Q sel) sel.length ≠ 0) :
    Calls Tryz.prog 17 #[v, rv, sv] w fun e w' => e = .returned (.tuple #[.bool false, faultV (codeE (nonE Q sel) sel.length, fstE (nonE Q sel) sel.length)]) ∧ Below w.heap.size w w' := by
  have HB0 := hid ((Below.refl w.heap.size w).alloc (Nat.le_refl _) (.cells #[.int .i64 0, .int .i64 0] 34))
  have HE0 := hid (heap_new w (.cells #[.int .i64 0, .int .i64 0] 34))
  have HIF := hid (iFault_any Q L v _ hn sh (I.below HB0.out))
  have HRF := hid (fun W (h : Below w.heap.size w W) => rFault_any Q roots v rv W (by rw [I.ln]; exact hn) hrn (I.below h).es (hr.below h))
  have HSF := hid (fun W (h : Below w.heap.size w W) => rFault_any Q sel v sv W (by rw [I.ln]; exact hn) hsn (I.below h).es (hs.below h))
  obtain ⟨a, c, hv1, -⟩ := id I.es
  subst hv1
  obtain ⟨ra, rc, hrv, -⟩ := id hr
  subst hrv
  obtain ⟨sa, sc, hsv, -⟩ := id hs
  subst hsv
  obtain ⟨oo0, hco⟩ : ∃ oo, chk Q L = (0, oo) := ⟨(chk Q L).2, Prod.ext h0 rfl⟩
  rw [hco] at HIF
  unfold faultV at HIF HRF
  simp only at HIF HRF
  generalize atOf oo0 = ao0 at *
  rw [h1] at HRF
  generalize atOf (fstE (nonE Q roots) roots.length) = ar at *
  unfold faultV at HSF
  simp only at HSF
  unfold faultV
  simp only
  generalize codeE (nonE Q sel) sel.length = sc0 at *
  generalize atOf (fstE (nonE Q sel) sel.length) = az at *
  have hpos : (0 : Int) < (sc0 : Int) := by omega
  have hnz : ((sc0 : Int) == 0) = false := by simp; omega
  have hnz2 : ¬ (sc0 : Int) = 0 := by omega
  clear I hr hs sh h0 hco h1 h2
  go_enter Tryz.func17, Tryz.ntmps17
  go_wp2_with fail
  refine HIF.out.mono ?_
  rintro e w1 ⟨rfl, hb⟩
  have HB1 := hid (HB0.out.trans (hb.mono HB0.out.size))
  have HE1 := hid ((hb.block _ (lt_of_blk HE0.out)).trans HE0.out)
  clear hb
  have HB2 := hid (HB1.out.alloc HB1.out.size (.cells #[.int .i64 0, .int .i64 ao0] 34))
  have HE2 := hid (heap_old w1 (.cells #[.int .i64 0, .int .i64 ao0] 34) HE1.out)
  have HF2 := hid (heap_new w1 (.cells #[.int .i64 0, .int .i64 ao0] 34))
  have HLT := hid (lt_of_blk HE1.out)
  have hne : ¬ w1.heap.size = w.heap.size := Nat.ne_of_gt (lt_of_blk HE1.out)
  have hne2 : ¬ w.heap.size = w1.heap.size := Nat.ne_of_lt (lt_of_blk HE1.out)
  go_wp2_with fail
  generalize hg2 : w1.alloc (.cells #[.int .i64 0, .int .i64 ao0] 34) = w2 at *
  clear hg2
  refine (HRF.out _ HB2.out).mono ?_
  rintro e w3 ⟨rfl, hb⟩
  have HB3a := hid (HB2.out.trans (hb.mono HB2.out.size))
  have HE3a := hid ((hb.block _ (lt_of_blk HE2.out)).trans HE2.out)
  have HF3a := hid ((hb.block _ (lt_of_blk HF2.out)).trans HF2.out)
  clear hb
  have HB3 := hid (put2_below (x := .int .i64 0) (y := .int .i64 ar) HB3a.out (Nat.le_of_lt HLT.out))
  have HE3 := hid (keep_set (fb := w1.heap.size) (o := 1) (x := .int .i64 ar) (keep_set (fb := w1.heap.size) (o := 0) (x := .int .i64 0) HE3a.out hne2) hne2)
  have HF3 := hid (set_block (o := 1) (x := .int .i64 ar) (set_block (o := 0) (x := .int .i64 0) HF3a.out))
  obtain ⟨g0, g1, gf⟩ := box_two HF3a.out
  go_wp2_with fail
  generalize hg3 : (w3.setCell ⟨w1.heap.size, 0, none⟩ (.int .i64 0)).setCell ⟨w1.heap.size, 1, none⟩ (.int .i64 ar) = w3b at *
  clear hg3 g0 g1 gf
  have HF3 : Hid (w3b.heap[w1.heap.size]? = some (.cells #[.int .i64 0, .int .i64 ar] 34 (0, 0))) := hid HF3.out
  refine (HSF.out _ HB3.out).mono ?_
  rintro e w4 ⟨rfl, hb⟩
  have HB4a := hid (HB3.out.trans (hb.mono HB3.out.size))
  have HE4a := hid ((hb.block _ (lt_of_blk HE3.out)).trans HE3.out)
  have HF4a := hid ((hb.block _ (lt_of_blk HF3.out)).trans HF3.out)
  clear hb
  have HB4 := hid (put2_below (x := .int .i64 (sc0 : Int)) (y := .int .i64 az) HB4a.out (Nat.le_of_lt HLT.out))
  have HE4 := hid (keep_set (fb := w1.heap.size) (o := 1) (x := .int .i64 az) (keep_set (fb := w1.heap.size) (o := 0) (x := .int .i64 (sc0 : Int)) HE4a.out hne2) hne2)
  have HF4 := hid (set_block (o := 1) (x := .int .i64 az) (set_block (o := 0) (x := .int .i64 (sc0 : Int)) HF4a.out))
  obtain ⟨g0, g1, gf⟩ := box_two HF4a.out
  go_wp2_with fail
  generalize hg4 : (w4.setCell ⟨w1.heap.size, 0, none⟩ (.int .i64 (sc0 : Int))).setCell ⟨w1.heap.size, 1, none⟩ (.int .i64 az) = w4b at *
  clear hg4 g0 g1 gf
  have HF4 : Hid (w4b.heap[w1.heap.size]? = some (.cells #[.int .i64 (sc0 : Int), .int .i64 az] 34 (0, 0))) := hid HF4.out
  have HBx := HB4
  have HEx := HE4
  have HFx := HF4
  obtain ⟨s0, s1, tf⟩ := box_two HEx.out
  obtain ⟨f0, f1, _⟩ := box_two HFx.out
  go_region_with fail
  all_goals
    go_wp2_with fail
    refine bodyPost_ret (v := .tuple #[.bool false, .agg #[.int .i64 (sc0 : Int), .int .i64 az]]) (by simp [results, Tryz.results17, go_sem, s0, s1]) rfl ⟨rfl, ?_⟩
    exact put2_below (below_drawn_of HBx.out 1) (Nat.le_refl _)
set_option maxRecDepth 100000 in
set_option maxHeartbeats 4000000 in
theorem co_bad4 (Q : List Raw) (L : List Ent) (roots sel : List Bm) (v rv sv : Value) (w : World) (hn : L.length ≤ 1000) (hrn : roots.length ≤ 1000000) (hsn : sel.length ≤ 1000000) (sh : ∀ e, e ∈ L → ShE e) (I : Ixs w v Q L) (hr : MsAt w rv roots) (hs : MsAt w sv sel) (h0 : (chk Q L).1 = 0) (h1 : codeE (nonE Q roots) roots.length = 0) (h2 : codeE (nonE Q sel) sel.length = 0) (h3 : risB2 sel = false) :
    Calls Tryz.prog 17 #[v, rv, sv] w fun e w' => e = .returned (.tuple #[.bool false, .agg #[.int .i64 8, .int .i64 (-1)]]) ∧ Below w.heap.size w w' := by
  have HB0 := hid ((Below.refl w.heap.size w).alloc (Nat.le_refl _) (.cells #[.int .i64 0, .int .i64 0] 34))
  have HE0 := hid (heap_new w (.cells #[.int .i64 0, .int .i64 0] 34))
  have HIF := hid (iFault_any Q L v _ hn sh (I.below HB0.out))
  have HRF := hid (fun W (h : Below w.heap.size w W) => rFault_any Q roots v rv W (by rw [I.ln]; exact hn) hrn (I.below h).es (hr.below h))
  have HSF := hid (fun W (h : Below w.heap.size w W) => rFault_any Q sel v sv W (by rw [I.ln]; exact hn) hsn (I.below h).es (hs.below h))
  have HRP := hid (fun W (h : Below w.heap.size w W) => rp_any sel sv W (hs.below h) hsn)
  rw [h3] at HRP
  obtain ⟨a, c, hv1, -⟩ := id I.es
  subst hv1
  obtain ⟨ra, rc, hrv, -⟩ := id hr
  subst hrv
  obtain ⟨sa, sc, hsv, -⟩ := id hs
  subst hsv
  obtain ⟨oo0, hco⟩ : ∃ oo, chk Q L = (0, oo) := ⟨(chk Q L).2, Prod.ext h0 rfl⟩
  rw [hco] at HIF
  unfold faultV at HIF HRF
  simp only at HIF HRF
  generalize atOf oo0 = ao0 at *
  rw [h1] at HRF
  generalize atOf (fstE (nonE Q roots) roots.length) = ar at *
  unfold faultV at HSF
  simp only at HSF
  rw [h2] at HSF
  generalize atOf (fstE (nonE Q sel) sel.length) = az at *
  clear I hr hs sh h0 hco h1 h2 h3
  have HBA := hid (fun W => rbare_any 8 W)
  go_enter Tryz.func17, Tryz.ntmps17
  go_wp2_with fail
  refine HIF.out.mono ?_
  rintro e w1 ⟨rfl, hb⟩
  have HB1 := hid (HB0.out.trans (hb.mono HB0.out.size))
  have HE1 := hid ((hb.block _ (lt_of_blk HE0.out)).trans HE0.out)
  clear hb
  have HB2 := hid (HB1.out.alloc HB1.out.size (.cells #[.int .i64 0, .int .i64 ao0] 34))
  have HE2 := hid (heap_old w1 (.cells #[.int .i64 0, .int .i64 ao0] 34) HE1.out)
  have HF2 := hid (heap_new w1 (.cells #[.int .i64 0, .int .i64 ao0] 34))
  have HLT := hid (lt_of_blk HE1.out)
  have hne : ¬ w1.heap.size = w.heap.size := Nat.ne_of_gt (lt_of_blk HE1.out)
  have hne2 : ¬ w.heap.size = w1.heap.size := Nat.ne_of_lt (lt_of_blk HE1.out)
  go_wp2_with fail
  generalize hg2 : w1.alloc (.cells #[.int .i64 0, .int .i64 ao0] 34) = w2 at *
  clear hg2
  refine (HRF.out _ HB2.out).mono ?_
  rintro e w3 ⟨rfl, hb⟩
  have HB3a := hid (HB2.out.trans (hb.mono HB2.out.size))
  have HE3a := hid ((hb.block _ (lt_of_blk HE2.out)).trans HE2.out)
  have HF3a := hid ((hb.block _ (lt_of_blk HF2.out)).trans HF2.out)
  clear hb
  have HB3 := hid (put2_below (x := .int .i64 0) (y := .int .i64 ar) HB3a.out (Nat.le_of_lt HLT.out))
  have HE3 := hid (keep_set (fb := w1.heap.size) (o := 1) (x := .int .i64 ar) (keep_set (fb := w1.heap.size) (o := 0) (x := .int .i64 0) HE3a.out hne2) hne2)
  have HF3 := hid (set_block (o := 1) (x := .int .i64 ar) (set_block (o := 0) (x := .int .i64 0) HF3a.out))
  obtain ⟨g0, g1, gf⟩ := box_two HF3a.out
  go_wp2_with fail
  generalize hg3 : (w3.setCell ⟨w1.heap.size, 0, none⟩ (.int .i64 0)).setCell ⟨w1.heap.size, 1, none⟩ (.int .i64 ar) = w3b at *
  clear hg3 g0 g1 gf
  have HF3 : Hid (w3b.heap[w1.heap.size]? = some (.cells #[.int .i64 0, .int .i64 ar] 34 (0, 0))) := hid HF3.out
  refine (HSF.out _ HB3.out).mono ?_
  rintro e w4 ⟨rfl, hb⟩
  have HB4a := hid (HB3.out.trans (hb.mono HB3.out.size))
  have HE4a := hid ((hb.block _ (lt_of_blk HE3.out)).trans HE3.out)
  have HF4a := hid ((hb.block _ (lt_of_blk HF3.out)).trans HF3.out)
  clear hb
  have HB4 := hid (put2_below (x := .int .i64 0) (y := .int .i64 az) HB4a.out (Nat.le_of_lt HLT.out))
  have HE4 := hid (keep_set (fb := w1.heap.size) (o := 1) (x := .int .i64 az) (keep_set (fb := w1.heap.size) (o := 0) (x := .int .i64 0) HE4a.out hne2) hne2)
  have HF4 := hid (set_block (o := 1) (x := .int .i64 az) (set_block (o := 0) (x := .int .i64 0) HF4a.out))
  obtain ⟨g0, g1, gf⟩ := box_two HF4a.out
  go_wp2_with fail
  generalize hg4 : (w4.setCell ⟨w1.heap.size, 0, none⟩ (.int .i64 0)).setCell ⟨w1.heap.size, 1, none⟩ (.int .i64 az) = w4b at *
  clear hg4 g0 g1 gf
  have HF4 : Hid (w4b.heap[w1.heap.size]? = some (.cells #[.int .i64 0, .int .i64 az] 34 (0, 0))) := hid HF4.out
  refine (HRP.out _ HB4.out).mono ?_
  rintro e w5 ⟨rfl, hb⟩
  have HB5 := hid (HB4.out.trans (hb.mono HB4.out.size))
  have HE5 := hid ((hb.block _ (lt_of_blk HE4.out)).trans HE4.out)
  have HF5 := hid ((hb.block _ (lt_of_blk HF4.out)).trans HF4.out)
  clear hb
  go_wp2_with fail
  refine (HBA.out _).mono ?_
  rintro e w6 ⟨rfl, hb⟩
  have HB6a := hid (HB5.out.trans (hb.mono HB5.out.size))
  have HE6a := hid ((hb.block _ (lt_of_blk HE5.out)).trans HE5.out)
  have HF6a := hid ((hb.block _ (lt_of_blk HF5.out)).trans HF5.out)
  clear hb
  have HB6 := hid (put2_below (x := .int .i64 8) (y := .int .i64 (-1)) HB6a.out (Nat.le_of_lt HLT.out))
  have HE6 := hid (keep_set (fb := w1.heap.size) (o := 1) (x := .int .i64 (-1)) (keep_set (fb := w1.heap.size) (o := 0) (x := .int .i64 8) HE6a.out hne2) hne2)
  have HF6 := hid (set_block (o := 1) (x := .int .i64 (-1)) (set_block (o := 0) (x := .int .i64 8) HF6a.out))
  obtain ⟨g0, g1, gf⟩ := box_two HF6a.out
  go_wp2_with fail
  generalize hg6 : (w6.setCell ⟨w1.heap.size, 0, none⟩ (.int .i64 8)).setCell ⟨w1.heap.size, 1, none⟩ (.int .i64 (-1)) = w6b at *
  clear hg6 g0 g1 gf
  have HFx : Hid (w6b.heap[w1.heap.size]? = some (.cells #[.int .i64 8, .int .i64 (-1)] 34 (0, 0))) := hid HF6.out
  have HBx := HB6
  have HEx := HE6
  obtain ⟨s0, s1, tf⟩ := box_two HEx.out
  obtain ⟨f0, f1, _⟩ := box_two HFx.out
  go_region_with fail
  all_goals
    go_wp2_with fail
    refine bodyPost_ret (v := .tuple #[.bool false, .agg #[.int .i64 8, .int .i64 (-1)]]) (by simp [results, Tryz.results17, go_sem, s0, s1]) rfl ⟨rfl, ?_⟩
    exact put2_below (below_drawn_of HBx.out 1) (Nat.le_refl _)
set_option maxRecDepth 100000 in
set_option maxHeartbeats 4000000 in
theorem co_good (Q : List Raw) (L : List Ent) (roots sel : List Bm) (v rv sv : Value) (w : World) (hn : L.length ≤ 1000) (hrn : roots.length ≤ 1000000) (hsn : sel.length ≤ 1000000) (sh : ∀ e, e ∈ L → ShE e) (I : Ixs w v Q L) (hr : MsAt w rv roots) (hs : MsAt w sv sel) (h0 : (chk Q L).1 = 0) (h1 : codeE (nonE Q roots) roots.length = 0) (h2 : codeE (nonE Q sel) sel.length = 0) (h3 : risB2 sel = true) :
    Calls Tryz.prog 17 #[v, rv, sv] w fun e w' => e = .returned (.tuple #[.bool (closB Q L roots sel), .agg #[.int .i64 0, .int .i64 (-1)]]) ∧ Below w.heap.size w w' := by
  have hru := (rgt_of I (show (chkG Q L roots).1 = 0 by rw [chkG_ok h0]; exact h1)).r
  have hsu := (rgt_of I (show (chkG Q L sel).1 = 0 by rw [chkG_ok h0]; exact h2)).r
  have HRZ := hid (show ∀ x, x ∈ roots → x.2.size < 999999 from fun x hx => (univ_szJ sh (hru x hx)).2)
  have HSZ := hid (show ∀ x, x ∈ sel → x.2.size < 999999 from fun x hx => (univ_szJ sh (hsu x hx)).2)
  have HQZ := hid (fun x => (reqQ_sz (Q := Q) sh x))
  have HHA := hid (fun (x : Bm) (hx : x.2.size < 999999) W (h : Below w.heap.size w W) => has2_any sel x sv W hsn HSZ.out hx (hs.below h))
  have HFO := hid (fun (x : Bm) (hx : x ∈ sel) W (h : Below w.heap.size w W) => findOf_all Q x v W (by rw [I.ln]; omega) (I.below h).es)
  have HAT := hid (fun (x : Bm) (hx : x ∈ sel) => show ∃ t, ∃ ht : t < Q.length, idxOf (isM x) Q = (t : Int) ∧ ∀ W (h : Below w.heap.size w W), MsAt W Q[t].2.1 (reqQ Q L x) by
    obtain ⟨t, ht⟩ := (found_iff I x).1 (hsu x hx)
    obtain ⟨htl, -⟩ := idx_is ht
    have htl2 : t < L.length := by rw [← I.ln]; exact htl
    refine ⟨t, htl, ht, fun W h => ?_⟩
    rw [reqQ_at ht htl2]
    exact ((I.below h).ok t htl htl2).rq)
  have HCT := hid (show (∀ j (h : j < roots.length), hasV sel roots[j] = true) → (∀ j (h : j < sel.length), undB (reqQ Q L sel[j]) sel = true) → closB Q L roots sel = true from fun h4 h5 => by
    unfold closB
    rw [Bool.and_eq_true]
    refine ⟨?_, ?_⟩
    · unfold undB
      rw [List.all_eq_true]
      intro x hx
      obtain ⟨j, hj, rfl⟩ := List.getElem_of_mem hx
      exact h4 j hj
    · rw [List.all_eq_true]
      intro x hx
      obtain ⟨j, hj, rfl⟩ := List.getElem_of_mem hx
      exact h5 j hj)
  have HCR := hid (show ∀ j (h : j < roots.length), hasV sel roots[j] = false → closB Q L roots sel = false from fun j hj h => by
    have : undB roots sel = false := by
      cases hu : undB roots sel
      · rfl
      · have := List.all_eq_true.1 hu roots[j] (List.getElem_mem hj)
        rw [h] at this; cases this
    unfold closB
    rw [this]; rfl)
  have HCS := hid (show ∀ j (h : j < sel.length) (k : Nat) (hk : k < (reqQ Q L sel[j]).length), hasV sel (reqQ Q L sel[j])[k] = false → closB Q L roots sel = false from fun j hj k hk h => by
    have h4 : undB (reqQ Q L sel[j]) sel = false := by
      cases hu : undB (reqQ Q L sel[j]) sel
      · rfl
      · have := List.all_eq_true.1 hu (reqQ Q L sel[j])[k] (List.getElem_mem hk)
        rw [h] at this; cases this
    have h5 : (sel.all fun m => undB (reqQ Q L m) sel) = false := by
      cases hu : (sel.all fun m => undB (reqQ Q L m) sel)
      · rfl
      · have := List.all_eq_true.1 hu sel[j] (List.getElem_mem hj)
        rw [h4] at this; cases this
    unfold closB
    rw [h5, Bool.and_false])
  have hqn : Q.length ≤ 1000000 := by rw [I.ln]; omega
  have HUN := hid (show ∀ R : List Bm, (∀ j (h : j < R.length), hasV sel R[j] = true) → undB R sel = true from fun R h4 => by
    unfold undB
    rw [List.all_eq_true]
    intro x hx
    obtain ⟨j, hj, rfl⟩ := List.getElem_of_mem hx
    exact h4 j hj)
  have HFN := hid (fun W => fine_any W)
  generalize closB Q L roots sel = z at *
  clear hru hsu
  have HB0 := hid ((Below.refl w.heap.size w).alloc (Nat.le_refl _) (.cells #[.int .i64 0, .int .i64 0] 34))
  have HE0 := hid (heap_new w (.cells #[.int .i64 0, .int .i64 0] 34))
  have HIF := hid (iFault_any Q L v _ hn sh (I.below HB0.out))
  have HRF := hid (fun W (h : Below w.heap.size w W) => rFault_any Q roots v rv W (by rw [I.ln]; exact hn) hrn (I.below h).es (hr.below h))
  have HSF := hid (fun W (h : Below w.heap.size w W) => rFault_any Q sel v sv W (by rw [I.ln]; exact hn) hsn (I.below h).es (hs.below h))
  have HRP := hid (fun W (h : Below w.heap.size w W) => rp_any sel sv W (hs.below h) hsn)
  rw [h3] at HRP
  have HI := hid (fun W (h : Below w.heap.size w W) => I.below h)
  have HMR := hid (fun W (h : Below w.heap.size w W) => hr.below h)
  have HMS := hid (fun W (h : Below w.heap.size w W) => hs.below h)
  obtain ⟨a, c, hv1, -⟩ := id I.es
  subst hv1
  obtain ⟨ra, rc, hrv, -⟩ := id hr
  subst hrv
  obtain ⟨sa, sc, hsv, -⟩ := id hs
  subst hsv
  obtain ⟨oo0, hco⟩ : ∃ oo, chk Q L = (0, oo) := ⟨(chk Q L).2, Prod.ext h0 rfl⟩
  rw [hco] at HIF
  unfold faultV at HIF HRF
  simp only at HIF HRF
  generalize atOf oo0 = ao0 at *
  rw [h1] at HRF
  generalize atOf (fstE (nonE Q roots) roots.length) = ar at *
  unfold faultV at HSF
  simp only at HSF
  rw [h2] at HSF
  generalize atOf (fstE (nonE Q sel) sel.length) = az at *
  clear I hr hs sh h0 hco h1 h2 h3
  go_enter Tryz.func17, Tryz.ntmps17
  go_wp2_with fail
  refine HIF.out.mono ?_
  rintro e w1 ⟨rfl, hb⟩
  have HB1 := hid (HB0.out.trans (hb.mono HB0.out.size))
  have HE1 := hid ((hb.block _ (lt_of_blk HE0.out)).trans HE0.out)
  clear hb
  have HB2 := hid (HB1.out.alloc HB1.out.size (.cells #[.int .i64 0, .int .i64 ao0] 34))
  have HE2 := hid (heap_old w1 (.cells #[.int .i64 0, .int .i64 ao0] 34) HE1.out)
  have HF2 := hid (heap_new w1 (.cells #[.int .i64 0, .int .i64 ao0] 34))
  have HLT := hid (lt_of_blk HE1.out)
  have hne : ¬ w1.heap.size = w.heap.size := Nat.ne_of_gt (lt_of_blk HE1.out)
  have hne2 : ¬ w.heap.size = w1.heap.size := Nat.ne_of_lt (lt_of_blk HE1.out)
  go_wp2_with fail
  generalize hg2 : w1.alloc (.cells #[.int .i64 0, .int .i64 ao0] 34) = w2 at *
  clear hg2
  refine (HRF.out _ HB2.out).mono ?_
  rintro e w3 ⟨rfl, hb⟩
  have HB3a := hid (HB2.out.trans (hb.mono HB2.out.size))
  have HE3a := hid ((hb.block _ (lt_of_blk HE2.out)).trans HE2.out)
  have HF3a := hid ((hb.block _ (lt_of_blk HF2.out)).trans HF2.out)
  clear hb
  have HB3 := hid (put2_below (x := .int .i64 0) (y := .int .i64 ar) HB3a.out (Nat.le_of_lt HLT.out))
  have HE3 := hid (keep_set (fb := w1.heap.size) (o := 1) (x := .int .i64 ar) (keep_set (fb := w1.heap.size) (o := 0) (x := .int .i64 0) HE3a.out hne2) hne2)
  have HF3 := hid (set_block (o := 1) (x := .int .i64 ar) (set_block (o := 0) (x := .int .i64 0) HF3a.out))
  obtain ⟨g0, g1, gf⟩ := box_two HF3a.out
  go_wp2_with fail
  generalize hg3 : (w3.setCell ⟨w1.heap.size, 0, none⟩ (.int .i64 0)).setCell ⟨w1.heap.size, 1, none⟩ (.int .i64 ar) = w3b at *
  clear hg3 g0 g1 gf
  have HF3 : Hid (w3b.heap[w1.heap.size]? = some (.cells #[.int .i64 0, .int .i64 ar] 34 (0, 0))) := hid HF3.out
  refine (HSF.out _ HB3.out).mono ?_
  rintro e w4 ⟨rfl, hb⟩
  have HB4a := hid (HB3.out.trans (hb.mono HB3.out.size))
  have HE4a := hid ((hb.block _ (lt_of_blk HE3.out)).trans HE3.out)
  have HF4a := hid ((hb.block _ (lt_of_blk HF3.out)).trans HF3.out)
  clear hb
  have HB4 := hid (put2_below (x := .int .i64 0) (y := .int .i64 az) HB4a.out (Nat.le_of_lt HLT.out))
  have HE4 := hid (keep_set (fb := w1.heap.size) (o := 1) (x := .int .i64 az) (keep_set (fb := w1.heap.size) (o := 0) (x := .int .i64 0) HE4a.out hne2) hne2)
  have HF4 := hid (set_block (o := 1) (x := .int .i64 az) (set_block (o := 0) (x := .int .i64 0) HF4a.out))
  obtain ⟨g0, g1, gf⟩ := box_two HF4a.out
  go_wp2_with fail
  generalize hg4 : (w4.setCell ⟨w1.heap.size, 0, none⟩ (.int .i64 0)).setCell ⟨w1.heap.size, 1, none⟩ (.int .i64 az) = w4b at *
  clear hg4 g0 g1 gf
  have HF4 : Hid (w4b.heap[w1.heap.size]? = some (.cells #[.int .i64 0, .int .i64 az] 34 (0, 0))) := hid HF4.out
  refine (HRP.out _ HB4.out).mono ?_
  rintro e w5 ⟨rfl, hb⟩
  have HB5 := hid (HB4.out.trans (hb.mono HB4.out.size))
  have HE5 := hid ((hb.block _ (lt_of_blk HE4.out)).trans HE4.out)
  have HF5 := hid ((hb.block _ (lt_of_blk HF4.out)).trans HF4.out)
  clear hb
  obtain ⟨f0, f1, ff⟩ := box_two HF5.out
  go_wp2_with fail
  clear f0 f1 ff
  clear HB0 HE0 HB1 HE1 HB2 HE2 HF2 HB3 HE3 HF3 HB4 HE4 HF4 HF5 HB3a HE3a HF3a HB4a HE4a HF4a
  go_loopw [10] (fun i wr => ∃ k : Nat, k ≤ roots.length ∧ i = .int .i64 k ∧ Hid (∀ j (h : j < roots.length), j < k → hasV sel roots[j] = true) ∧ Hid (Below w5.heap.size w5 wr)) (fun i _ => roots.length - (intOf i).toNat)
  case atStart => exact ⟨0, Nat.zero_le _, rfl, hid (fun j _ hj => absurd hj (Nat.not_lt_zero _)), hid (Below.refl _ _)⟩
  case round =>
    obtain ⟨k, hk, rfl, HE, HBW⟩ := hrel
    have HBq := hid (HB5.out.trans (HBW.out.mono HB5.out.size))
    have HEq := hid ((HBW.out.block _ (lt_of_blk HE5.out)).trans HE5.out)
    by_cases hlt : k < roots.length
    · obtain ⟨xb, xo, hxa, x0, x1⟩ := (HMR.out _ HBq.out).cells hlt
      subst hxa
      have hkI := ix_lt hlt
      have hk0 := ix_pos k
      have HLK := hid hlt
      have HHK := hid (HHA.out roots[k] (HRZ.out _ (List.getElem_mem hlt)) _ HBq.out)
      have HNX := hid (show hasV sel roots[k] = true → ∀ j (h : j < roots.length), j < k + 1 → hasV sel roots[j] = true from fun h0 j h1 h3 => by
        rcases Nat.lt_or_ge j k with h | h
        · exact HE.out j h1 h
        · have : j = k := by omega
          subst this; exact h0)
      have HNK := hid (HCR.out k hlt)
      generalize roots[k] = x at *
      obtain ⟨x1', x2'⟩ := x
      simp only at x0 x1
      clear hlt
      cases hh : hasV sel (x1', x2')
      · rw [hh] at HHK
        have HZ := hid (HNK.out hh)
        clear hh HNX HNK
        go_wp2_with fail
        refine HHK.out.mono ?_
        rintro e w6 ⟨rfl, hb⟩
        have HBq := hid (HBq.out.trans (hb.mono HBq.out.size))
        have HEq := hid ((hb.block _ (lt_of_blk HEq.out)).trans HEq.out)
        clear hb
        go_wp2_with fail
        refine (HFN.out _).mono ?_
        rintro e wf ⟨rfl, hb⟩
        have HBf := hid (HBq.out.trans (hb.mono HBq.out.size))
        have HEf := hid ((hb.block _ (lt_of_blk HEq.out)).trans HEq.out)
        clear hb
        obtain ⟨s0, s1, tf⟩ := box_two HEf.out
        go_wp2_with fail
        refine bodyPost_ret (v := .tuple #[.bool false, .agg #[.int .i64 0, .int .i64 (-1)]]) (by simp [results, Tryz.results17, go_sem, s0, s1]) rfl ⟨by rw [HZ.out], ?_⟩
        exact put2_below HBf.out (Nat.le_refl _)
      · rw [hh] at HHK
        have HN2 := hid (HNX.out hh)
        clear hh HNX HNK
        go_wp2_with fail
        refine HHK.out.mono ?_
        rintro e w6 ⟨rfl, hb⟩
        have HB6 := hid (HBW.out.trans (hb.mono HBW.out.size))
        clear hb
        go_wp2_with fail
        go_roundw
        case rel => first | exact ⟨k + 1, HLK.out, nr_idx k, HN2, HB6⟩ | exact ⟨k + 1, HLK.out, nx_idx HLK.out hrn, HN2, HB6⟩
        case measure => first | exact nr_meas HLK.out | exact nx_meas HLK.out hrn
    · have hkI := ix_nlt hlt
      have HA1 := hid (show ∀ j (h : j < roots.length), hasV sel roots[j] = true from fun j h => HE.out j h (by omega))
      clear hlt HE
      generalize hgw : wr = wq at *
      clear hgw HBW HB5 HE5
      go_wp2_with fail
      go_loopw [12] (fun i wr => ∃ k : Nat, k ≤ sel.length ∧ i = .int .i64 k ∧ Hid (∀ j (h : j < sel.length), j < k → undB (reqQ Q L sel[j]) sel = true) ∧ Hid (Below wq.heap.size wq wr)) (fun i _ => sel.length - (intOf i).toNat)
      case atStart => exact ⟨0, Nat.zero_le _, rfl, hid (fun j _ hj => absurd hj (Nat.not_lt_zero _)), hid (Below.refl _ _)⟩
      case round =>
        obtain ⟨k2, hk2, rfl, HE, HBW⟩ := hrel
        have HBr := hid (HBq.out.trans (HBW.out.mono HBq.out.size))
        have HEr := hid ((HBW.out.block _ (lt_of_blk HEq.out)).trans HEq.out)
        by_cases hlt : k2 < sel.length
        · obtain ⟨xb, xo, hxa, x0, x1⟩ := (HMS.out _ HBr.out).cells hlt
          subst hxa
          have hkI2 := ix_lt hlt
          have hk02 := ix_pos k2
          have HLK := hid hlt
          have HFK := hid (HFO.out sel[k2] (List.getElem_mem hlt) _ HBr.out)
          obtain ⟨t, ht, e1, HRQ⟩ := HAT.out sel[k2] (List.getElem_mem hlt)
          have HRQ := hid HRQ
          rw [e1] at HFK
          have HQS := hid (HQZ.out sel[k2])
          have HNX := hid (show undB (reqQ Q L sel[k2]) sel = true → ∀ j (h : j < sel.length), j < k2 + 1 → undB (reqQ Q L sel[j]) sel = true from fun h0 j h1 h3 => by
            rcases Nat.lt_or_ge j k2 with h | h
            · exact HE.out j h1 h
            · have : j = k2 := by omega
              subst this; exact h0)
          have HNK := hid (HCS.out k2 hlt)
          have htI := ix_lt ht
          have ht0 := ix_pos t
          have HES := hid (fun W (h : Below w.heap.size w W) => es_cells (HI.out W h).es ht)
          generalize reqQ Q L sel[k2] = R at *
          generalize (Q[t]'ht).2.1 = qv at *
          obtain ⟨qa, qc, hqv, -⟩ := HRQ.out w (Below.refl _ _)
          subst hqv
          obtain ⟨eb, eo, ha, -⟩ := HES.out w (Below.refl _ _)
          subst ha
          have HX2 := hid (fun W (h : Below w.heap.size w W) => show W.cell? ⟨eb, eo + t * 5 + 2, none⟩ = some (.slice qa R.length qc) by
            obtain ⟨eb', eo', e, h2⟩ := HES.out W h
            injection e with e
            injection e with e1 e2
            subst e1 e2
            exact h2)
          generalize sel[k2] = x at *
          obtain ⟨x1', x2'⟩ := x
          simp only at x0 x1
          clear hlt e1 ht HES
          go_wp2_with fail
          refine HFK.out.mono ?_
          rintro e w6 ⟨rfl, hb⟩
          have HB6 := hid (HBW.out.trans (hb.mono HBW.out.size))
          have HB6w := hid (HBr.out.trans (hb.mono HBr.out.size))
          have t0 := HX2.out w6 HB6w.out
          clear hb
          go_wp2_with fail
          clear t0
          go_loopw [14] (fun i wr => ∃ k : Nat, k ≤ R.length ∧ i = .int .i64 k ∧ Hid (∀ j (h : j < R.length), j < k → hasV sel R[j] = true) ∧ Hid (Below wq.heap.size wq wr)) (fun i _ => R.length - (intOf i).toNat)
          case atStart => exact ⟨0, Nat.zero_le _, rfl, hid (fun j _ hj => absurd hj (Nat.not_lt_zero _)), HB6⟩
          case round =>
            obtain ⟨k3, hk3, rfl, HE3, HBW3⟩ := hrel
            have HBs := hid (HBq.out.trans (HBW3.out.mono HBq.out.size))
            have HEs := hid ((HBW3.out.block _ (lt_of_blk HEq.out)).trans HEq.out)
            by_cases hlt : k3 < R.length
            · obtain ⟨yb, yo, hya, y0, y1⟩ := (HRQ.out _ HBs.out).cells hlt
              subst hya
              have hkI3 := ix_lt hlt
              have hk03 := ix_pos k3
              have HLK3 := hid hlt
              have HHK := hid (HHA.out R[k3] (HQS.out.2 _ (List.getElem_mem hlt)).2 _ HBs.out)
              have HNX3 := hid (show hasV sel R[k3] = true → ∀ j (h : j < R.length), j < k3 + 1 → hasV sel R[j] = true from fun h0 j h1 h3 => by
                rcases Nat.lt_or_ge j k3 with h | h
                · exact HE3.out j h1 h
                · have : j = k3 := by omega
                  subst this; exact h0)
              have HNK3 := hid (HNK.out k3 hlt)
              generalize R[k3] = y at *
              obtain ⟨y1', y2'⟩ := y
              simp only at y0 y1
              clear hlt
              cases hh : hasV sel (y1', y2')
              · rw [hh] at HHK
                have HZ := hid (HNK3.out hh)
                clear hh HNX3 HNK3
                go_wp2_with fail
                refine HHK.out.mono ?_
                rintro e w7 ⟨rfl, hb⟩
                have HBq := hid (HBs.out.trans (hb.mono HBs.out.size))
                have HEq := hid ((hb.block _ (lt_of_blk HEs.out)).trans HEs.out)
                clear hb
                go_wp2_with fail
                refine (HFN.out _).mono ?_
                rintro e wf ⟨rfl, hb⟩
                have HBf := hid (HBq.out.trans (hb.mono HBq.out.size))
                have HEf := hid ((hb.block _ (lt_of_blk HEq.out)).trans HEq.out)
                clear hb
                obtain ⟨s0, s1, tf⟩ := box_two HEf.out
                go_wp2_with fail
                refine bodyPost_ret (v := .tuple #[.bool false, .agg #[.int .i64 0, .int .i64 (-1)]]) (by simp [results, Tryz.results17, go_sem, s0, s1]) rfl ⟨by rw [HZ.out], ?_⟩
                exact put2_below HBf.out (Nat.le_refl _)
              · rw [hh] at HHK
                have HN3 := hid (HNX3.out hh)
                clear hh HNX3 HNK3
                go_wp2_with fail
                refine HHK.out.mono ?_
                rintro e w7 ⟨rfl, hb⟩
                have HB7 := hid (HBW3.out.trans (hb.mono HBW3.out.size))
                clear hb
                go_wp2_with fail
                go_roundw
                case rel => first | exact ⟨k3 + 1, HLK3.out, nr_idx k3, HN3, HB7⟩ | exact ⟨k3 + 1, HLK3.out, nx_idx HLK3.out HQS.out.1, HN3, HB7⟩
                case measure => first | exact nr_meas HLK3.out | exact nx_meas HLK3.out HQS.out.1
            · have hkI3 := ix_nlt hlt
              have HN2 := hid (HNX.out (HUN.out R (fun j h => HE3.out j h (by omega))))
              clear hlt
              go_wp2_with fail
              go_roundw
              case rel => first | exact ⟨k2 + 1, HLK.out, nr_idx k2, HN2, HBW3⟩ | exact ⟨k2 + 1, HLK.out, nx_idx HLK.out hsn, HN2, HBW3⟩
              case measure => first | exact nr_meas HLK.out | exact nx_meas HLK.out hsn
        · have hkI2 := ix_nlt hlt
          have HZ := hid (HCT.out HA1.out (fun j h => HE.out j h (by omega)))
          have HBq := HBr
          have HEq := HEr
          clear hlt
          go_wp2_with fail
          refine (HFN.out _).mono ?_
          rintro e wf ⟨rfl, hb⟩
          have HBf := hid (HBq.out.trans (hb.mono HBq.out.size))
          have HEf := hid ((hb.block _ (lt_of_blk HEq.out)).trans HEq.out)
          clear hb
          obtain ⟨s0, s1, tf⟩ := box_two HEf.out
          go_wp2_with fail
          refine bodyPost_ret (v := .tuple #[.bool true, .agg #[.int .i64 0, .int .i64 (-1)]]) (by simp [results, Tryz.results17, go_sem, s0, s1]) rfl ⟨by rw [HZ.out], ?_⟩
          exact put2_below HBf.out (Nat.le_refl _)
/-- What is refused of a selection. -/
def cF (Q : List Raw) (L : List Ent) (roots sel : List Bm) : Nat × Option Nat := if (chkC Q L roots sel).1 = 0 then (0, none) else chkC Q L roots sel
/-- Is it closed? -/
def cB (Q : List Raw) (L : List Ent) (roots sel : List Bm) : Bool := if (chkC Q L roots sel).1 = 0 then closB Q L roots sel else false
theorem chkC_same {Q Q' : List Raw} {L : List Ent} (h : Q.map (fun r => r.1) = Q'.map (fun r => r.1)) (roots sel : List Bm) : chkC Q L roots sel = chkC Q' L roots sel := by unfold chkC; rw [chkG_same h, nonE_same h]
theorem cF_same {Q Q' : List Raw} {L : List Ent} (h : Q.map (fun r => r.1) = Q'.map (fun r => r.1)) (roots sel : List Bm) : cF Q L roots sel = cF Q' L roots sel := by unfold cF; rw [chkC_same h]
theorem cB_same {Q Q' : List Raw} {L : List Ent} (h : Q.map (fun r => r.1) = Q'.map (fun r => r.1)) (roots sel : List Bm) : cB Q L roots sel = cB Q' L roots sel := by unfold cB closB; rw [chkC_same h, reqQ_same h]
/-- ClosedOf. -/
theorem co_all (Q : List Raw) (L : List Ent) (roots sel : List Bm) (v rv sv : Value) (w : World) (hn : L.length ≤ 1000) (hrn : roots.length ≤ 1000000) (hsn : sel.length ≤ 1000000) (sh : ∀ e, e ∈ L → ShE e) (I : Ixs w v Q L) (hr : MsAt w rv roots) (hs : MsAt w sv sel) :
    Calls Tryz.prog 17 #[v, rv, sv] w fun e w' => e = .returned (.tuple #[.bool (cB Q L roots sel), faultV (cF Q L roots sel)]) ∧ Below w.heap.size w w' := by
  by_cases h0 : (chk Q L).1 = 0
  · by_cases h1 : codeE (nonE Q roots) roots.length = 0
    · have hg : (chkG Q L roots).1 = 0 := by rw [chkG_ok h0]; exact h1
      by_cases h2 : codeE (nonE Q sel) sel.length = 0
      · cases h3 : risB2 sel
        · have hC : chkC Q L roots sel = (8, none) := by rw [chkC_ris hg h2, h3]; rfl
          have := co_bad4 Q L roots sel v rv sv w hn hrn hsn sh I hr hs h0 h1 h2 h3
          unfold cB cF
          rw [hC]
          exact this
        · have hC : chkC Q L roots sel = (0, none) := by rw [chkC_ris hg h2, h3]; rfl
          have := co_good Q L roots sel v rv sv w hn hrn hsn sh I hr hs h0 h1 h2 h3
          unfold cB cF
          rw [hC]
          exact this
      · have hC := chkC_sel (sel := sel) hg h2
        have := co_bad3 Q L roots sel v rv sv w hn hrn hsn sh I hr hs h0 h1 h2
        unfold cB cF
        rw [hC, if_neg h2, if_neg h2]
        exact this
    · have hg : (chkG Q L roots).1 ≠ 0 := by rw [chkG_ok h0]; exact h1
      have hC := chkC_bad (sel := sel) hg
      have := co_bad2 Q L roots sel v rv sv w hn hrn hsn sh I hr hs h0 h1
      unfold cB cF
      rw [hC, if_neg hg, if_neg hg, chkG_ok h0]
      exact this
  · have hg : (chkG Q L roots).1 ≠ 0 := by rw [chkG_bad h0]; exact h0
    have hC := chkC_bad (sel := sel) hg
    have := co_bad1 Q L roots sel v rv sv w hn hrn hsn sh I hr hs h0
    unfold cB cF
    rw [hC, if_neg hg, if_neg hg, chkG_bad h0]
    exact this
end Ve
end Go.Proofs.YtoaobngpdaidoaaGreatDoor

/-
  One module more, and two joined, as the document's answer does it (with, JoinOf), plain.
-/
namespace Go.Proofs.YtoaobngpdaidoaaGreatDoor
open Go.RowKit
namespace Ve

/-- With a module more: of its path the greater version; paths rise. -/
def withR : List Bm → Bm → List Bm
  | [], m => [m]
  | x :: r, m => if lt x.1 m.1 then x :: withR r m else if x.1 = m.1 then (m.1, maxB x.2 m.2) :: r else m :: x :: r
def wSt (m : Bm) (s : Bool × List Bm) (x : Bm) : Bool × List Bm :=
  if s.1 then (true, s.2 ++ [x]) else if lt x.1 m.1 then (false, s.2 ++ [x]) else if x.1 = m.1 then (true, s.2 ++ [(m.1, maxB x.2 m.2)]) else (true, s.2 ++ [m] ++ [x])
def wFin (m : Bm) (s : Bool × List Bm) : List Bm := if s.1 then s.2 else s.2 ++ [m]
/-- What has been made of the first ones. -/
def wN (l : List Bm) (m : Bm) (i : Nat) : Bool × List Bm := (l.take i).foldl (wSt m) (false, [])
theorem wN_zero (l : List Bm) (m : Bm) : wN l m 0 = (false, []) := rfl
theorem wN_next {l : List Bm} {m : Bm} {i : Nat} (h : i < l.length) : wN l m (i + 1) = wSt m (wN l m i) l[i] := by
  unfold wN
  rw [List.take_succ_eq_append_getElem h, List.foldl_append]; rfl
theorem wSt_done (m : Bm) : ∀ (l o : List Bm), l.foldl (wSt m) (true, o) = (true, o ++ l)
  | [], o => by simp
  | x :: r, o => by
    rw [List.foldl_cons]
    show r.foldl (wSt m) (true, o ++ [x]) = _
    rw [wSt_done m r]; simp
theorem wFin_all (m : Bm) : ∀ (l o : List Bm), wFin m (l.foldl (wSt m) (false, o)) = o ++ withR l m
  | [], o => rfl
  | x :: r, o => by
    rw [List.foldl_cons]
    unfold withR
    by_cases h1 : lt x.1 m.1 = true
    · rw [if_pos h1, show wSt m (false, o) x = (false, o ++ [x]) by unfold wSt; rw [if_neg (by simp), if_pos h1], wFin_all m r]; simp
    · rw [if_neg h1]
      by_cases h2 : x.1 = m.1
      · rw [if_pos h2, show wSt m (false, o) x = (true, o ++ [(m.1, maxB x.2 m.2)]) by unfold wSt; rw [if_neg (by simp), if_neg h1, if_pos h2], wSt_done]; simp [wFin]
      · rw [if_neg h2, show wSt m (false, o) x = (true, o ++ [m] ++ [x]) by unfold wSt; rw [if_neg (by simp), if_neg h1, if_neg h2], wSt_done]; simp [wFin]
theorem wN_all (l : List Bm) (m : Bm) : wFin m (wN l m l.length) = withR l m := by
  unfold wN
  rw [List.take_of_length_le (Nat.le_refl _), wFin_all]; rfl
theorem withR_len : ∀ (l : List Bm) (m : Bm), (withR l m).length ≤ l.length + 1
  | [], m => by simp [withR]
  | x :: r, m => by
    unfold withR
    split
    · have := withR_len r m; simp; omega
    · split <;> simp
theorem wSt_len (m : Bm) (s : Bool × List Bm) (x : Bm) : (wSt m s x).2.length ≤ s.2.length + 2 := by
  unfold wSt
  split
  · simp
  · split
    · simp
    · split <;> simp
theorem wN_len (l : List Bm) (m : Bm) : ∀ i, (wN l m i).2.length ≤ 2 * i
  | 0 => by simp [wN_zero]
  | i + 1 => by
    have ih := wN_len l m i
    by_cases h : i < l.length
    · rw [wN_next h]
      have := wSt_len m (wN l m i) l[i]
      omega
    · have e : wN l m (i + 1) = wN l m i := by
        unfold wN
        rw [List.take_of_length_le (by omega), List.take_of_length_le (by omega)]
      rw [e]; omega
theorem maxB_two {x m : Bm} (hx : mErr x = 0) (hm : mErr m = 0) (h : x.1 = m.1) : ((m.1, maxB x.2 m.2) = x ∨ (m.1, maxB x.2 m.2) = m) ∧ ordV (vb x) (vb (m.1, maxB x.2 m.2)) ≤ 0 ∧ ordV (vb m) (vb (m.1, maxB x.2 m.2)) ≤ 0 := by
  unfold maxB
  rw [if_pos (mErr_zero hx).2, if_pos (mErr_zero hm).2]
  by_cases h1 : ordV x.2.data.toList m.2.data.toList < 0
  · rw [if_pos h1]
    exact ⟨Or.inr rfl, Int.le_of_lt h1, ordV_selfJ hm⟩
  · rw [if_neg h1]
    refine ⟨Or.inl (Prod.ext h.symm rfl), ?_, ordV_total h1⟩
    exact ordV_selfJ hx
theorem withR_in : ∀ {l : List Bm} {m : Bm}, (∀ x, x ∈ l → mErr x = 0) → mErr m = 0 → ∀ e, e ∈ withR l m → e ∈ l ∨ e = m
  | [], m, _, _, e, he => Or.inr (List.mem_singleton.1 he)
  | x :: r, m, hl, hm, e, he => by
    unfold withR at he
    by_cases h1 : lt x.1 m.1 = true
    · rw [if_pos h1] at he
      rcases List.mem_cons.1 he with rfl | he
      · exact Or.inl (List.mem_cons_self ..)
      · rcases withR_in (fun y hy => hl y (List.mem_cons_of_mem _ hy)) hm e he with h | h
        · exact Or.inl (List.mem_cons_of_mem _ h)
        · exact Or.inr h
    · rw [if_neg h1] at he
      by_cases h2 : x.1 = m.1
      · rw [if_pos h2] at he
        rcases List.mem_cons.1 he with rfl | he
        · rcases (maxB_two (hl x (List.mem_cons_self ..)) hm h2).1 with h | h
          · exact Or.inl (by rw [h]; exact List.mem_cons_self ..)
          · exact Or.inr h
        · exact Or.inl (List.mem_cons_of_mem _ he)
      · rw [if_neg h2] at he
        rcases List.mem_cons.1 he with rfl | he
        · exact Or.inr rfl
        · exact Or.inl he
theorem withR_rising : ∀ {l : List Bm} {m : Bm}, (∀ x, x ∈ l → mErr x = 0) → mErr m = 0 → rising l → rising (withR l m)
  | [], m, _, _, _ => List.pairwise_singleton _ _
  | x :: r, m, hl, hm, hr => by
    obtain ⟨h3, h4⟩ := List.pairwise_cons.1 hr
    have hlr : ∀ y, y ∈ r → mErr y = 0 := fun y hy => hl y (List.mem_cons_of_mem _ hy)
    unfold withR
    by_cases h1 : lt x.1 m.1 = true
    · rw [if_pos h1]
      refine List.pairwise_cons.2 ⟨fun e he => ?_, withR_rising hlr hm h4⟩
      rcases withR_in hlr hm e he with h | h
      · exact h3 e h
      · rw [h]; exact h1
    · rw [if_neg h1]
      by_cases h2 : x.1 = m.1
      · rw [if_pos h2]
        refine List.pairwise_cons.2 ⟨fun e he => ?_, h4⟩
        show lt m.1 e.1 = true
        rw [← h2]; exact h3 e he
      · rw [if_neg h2]
        have h5 : lt m.1 x.1 = true := by
          rcases lt_three x.1 m.1 with h | h | h
          · exact absurd h h1
          · exact absurd h h2
          · exact h
        refine List.pairwise_cons.2 ⟨fun e he => ?_, hr⟩
        rcases List.mem_cons.1 he with rfl | he
        · exact h5
        · exact lt_trans h5 (h3 e he)
theorem withR_top : ∀ {l : List Bm} {m : Bm}, (∀ x, x ∈ l → mErr x = 0) → mErr m = 0 → ∀ y, (y ∈ l ∨ y = m) → ∃ e, e ∈ withR l m ∧ e.1 = y.1 ∧ ordV (vb y) (vb e) ≤ 0
  | [], m, _, hm, y, hy => by
    rcases hy with h | rfl
    · cases h
    · exact ⟨y, by simp [withR], rfl, ordV_selfJ hm⟩
  | x :: r, m, hl, hm, y, hy => by
    have hlr : ∀ y, y ∈ r → mErr y = 0 := fun y hy => hl y (List.mem_cons_of_mem _ hy)
    have hx := hl x (List.mem_cons_self ..)
    unfold withR
    by_cases h1 : lt x.1 m.1 = true
    · rw [if_pos h1]
      by_cases hyx : y = x
      · subst hyx
        exact ⟨y, List.mem_cons_self .., rfl, ordV_selfJ hx⟩
      · obtain ⟨e, he, e1, e2⟩ := withR_top hlr hm y (by
          rcases hy with h | h
          · rcases List.mem_cons.1 h with h | h
            · exact absurd h hyx
            · exact Or.inl h
          · exact Or.inr h)
        exact ⟨e, List.mem_cons_of_mem _ he, e1, e2⟩
    · rw [if_neg h1]
      by_cases h2 : x.1 = m.1
      · rw [if_pos h2]
        obtain ⟨-, h3, h4⟩ := maxB_two hx hm h2
        rcases hy with h | rfl
        · rcases List.mem_cons.1 h with rfl | h
          · exact ⟨_, List.mem_cons_self .., h2.symm, h3⟩
          · exact ⟨y, List.mem_cons_of_mem _ h, rfl, ordV_selfJ (hlr y h)⟩
        · exact ⟨_, List.mem_cons_self .., rfl, h4⟩
      · rw [if_neg h2]
        rcases hy with h | rfl
        · exact ⟨y, List.mem_cons_of_mem _ h, rfl, ordV_selfJ (hl y h)⟩
        · exact ⟨y, List.mem_cons_self .., rfl, ordV_selfJ hm⟩
theorem Jn.with {D E : List Bm} {m : Bm} (h : Jn D E) (hm : mErr m = 0) : Jn (D ++ [m]) (withR E m) := by
  have hE : ∀ x, x ∈ E → mErr x = 0 := fun x hx => (h.sub x hx).2
  refine ⟨withR_rising hE hm h.ri, fun e he => ?_, fun x hx hx0 => ?_⟩
  · rcases withR_in hE hm e he with h1 | h1
    · exact ⟨List.mem_append_left _ (h.sub e h1).1, hE e h1⟩
    · rw [h1]; exact ⟨List.mem_append_right _ (by simp), hm⟩
  · rcases List.mem_append.1 hx with h1 | h1
    · obtain ⟨e, he, e1, e2⟩ := h.top x h1 hx0
      obtain ⟨f, hf, f1, f2⟩ := withR_top hE hm e (Or.inl he)
      have hf0 : mErr f = 0 := by
        rcases withR_in hE hm f hf with h3 | h3
        · exact hE f h3
        · rw [h3]; exact hm
      exact ⟨f, hf, f1.trans e1, ordV_le_trans (mErr_zero hx0).2 (mErr_zero (hE e he)).2 (mErr_zero hf0).2 e2 f2⟩
    · have := List.mem_singleton.1 h1
      subst this
      exact withR_top hE hm x (Or.inr rfl)
theorem Jn.wrong {D E : List Bm} {m : Bm} (h : Jn D E) (hm : ¬ mErr m = 0) : Jn (D ++ [m]) E :=
  ⟨h.ri, fun e he => ⟨List.mem_append_left _ (h.sub e he).1, (h.sub e he).2⟩, fun x hx hx0 => by
    rcases List.mem_append.1 hx with h1 | h1
    · exact h.top x h1 hx0
    · have := List.mem_singleton.1 h1
      subst this
      exact absurd hx0 hm⟩
theorem Jn.empty : Jn [] [] := ⟨List.Pairwise.nil, (fun e he => by cases he), (fun x hx => by cases hx)⟩
/-- One step of JoinOf. -/
def jSt (E : List Bm) (x : Bm) : List Bm := if mErr x = 0 then withR E x else E
theorem jSt_len (E : List Bm) (x : Bm) : (jSt E x).length ≤ E.length + 1 := by
  unfold jSt
  split
  · exact withR_len E x
  · omega
theorem jN_next {E l : List Bm} {i : Nat} (h : i < l.length) : (l.take (i + 1)).foldl jSt E = jSt ((l.take i).foldl jSt E) l[i] := by
  rw [List.take_succ_eq_append_getElem h, List.foldl_append]; rfl
theorem jN_len (E : List Bm) : ∀ l : List Bm, (l.foldl jSt E).length ≤ E.length + l.length
  | [] => by simp
  | x :: r => by
    rw [List.foldl_cons]
    have h1 := jN_len (jSt E x) r
    have h2 := jSt_len E x
    simp only [List.length_cons]
    omega
theorem jN_jn : ∀ {l D E : List Bm}, Jn D E → Jn (D ++ l) (l.foldl jSt E)
  | [], D, E, h => by simpa using h
  | x :: r, D, E, h => by
    rw [List.foldl_cons, show D ++ x :: r = (D ++ [x]) ++ r by simp]
    refine jN_jn ?_
    unfold jSt
    by_cases hx : mErr x = 0
    · rw [if_pos hx]; exact h.with hx
    · rw [if_neg hx]; exact h.wrong hx
/-- What is joined of two, as the document's answer does it. -/
def jL (a b : List Bm) : List Bm := b.foldl jSt (a.foldl jSt [])
theorem jL_jn (a b : List Bm) : Jn (a ++ b) (jL a b) := by
  have h := jN_jn (l := a) Jn.empty
  rw [List.nil_append] at h
  exact jN_jn h
theorem jN_sub (l : List Bm) (i : Nat) : ∀ e, e ∈ (l.take i).foldl jSt [] → e ∈ l := fun e he => by
  have h := jN_jn (l := l.take i) Jn.empty
  rw [List.nil_append] at h
  exact List.mem_of_mem_take (h.sub e he).1
theorem jN_sub2 (a b : List Bm) (i : Nat) : ∀ e, e ∈ (b.take i).foldl jSt (a.foldl jSt []) → e ∈ a ∨ e ∈ b := fun e he => by
  have h := jN_jn (l := a) Jn.empty
  rw [List.nil_append] at h
  have h2 := jN_jn (l := b.take i) h
  rcases List.mem_append.1 (h2.sub e he).1 with h3 | h3
  · exact Or.inl h3
  · exact Or.inr (List.mem_of_mem_take h3)
end Ve
end Go.Proofs.YtoaobngpdaidoaaGreatDoor

/-
  What with and JoinOf of the document's answer say.
-/
namespace Go.Proofs.YtoaobngpdaidoaaGreatDoor
open Go.RowKit Go.Maps
namespace Ve

theorem keep_grow3 {W3 W4 : World} {o : Obj} {b b' c' : Nat} {row : Option Nat} {x y z : Value} (hg : (W3.alloc o).grownBy W4 row) (h : W3.cell? ⟨b, 0, none⟩ = some x ∧ W3.cell? ⟨b, 1, none⟩ = some y ∧ W3.cell? ⟨b', c', none⟩ = some z ∧ Hid (b < W3.heap.size)) (hb' : b' < W3.heap.size) (hne : some b ≠ row) (hne' : some b' ≠ row) : W4.cell? ⟨b, 0, none⟩ = some x ∧ W4.cell? ⟨b, 1, none⟩ = some y ∧ W4.cell? ⟨b', c', none⟩ = some z ∧ Hid (b < W4.heap.size) := by
  obtain ⟨h0, h1, h2, hb⟩ := h
  have hl : b < (W3.alloc o).heap.size := by have := hb.out; simp; omega
  have hl' : b' < (W3.alloc o).heap.size := by simp; omega
  have k1 := ((Below.refl W3.heap.size W3).alloc (Nat.le_refl _) o).block b hb.out
  have k2 := hg.block b hl hne
  have k3 := ((Below.refl W3.heap.size W3).alloc (Nat.le_refl _) o).block b' hb'
  have k4 := hg.block b' hl' hne'
  refine ⟨?_, ?_, ?_, hid (Nat.lt_of_lt_of_le hl hg.size)⟩
  · rw [World.cell?_of_block k2, World.cell?_of_block k1]; exact h0
  · rw [World.cell?_of_block k2, World.cell?_of_block k1]; exact h1
  · rw [World.cell?_of_block k4, World.cell?_of_block k3]; exact h2
theorem wSt_t (m x : Bm) (o : List Bm) : wSt m (true, o) x = (true, o ++ [x]) := rfl
theorem wSt_l {m x : Bm} (o : List Bm) (h : lt x.1 m.1 = true) : wSt m (false, o) x = (false, o ++ [x]) := by unfold wSt; rw [if_neg (by simp), if_pos h]
theorem wSt_e {m x : Bm} (o : List Bm) (h : lt x.1 m.1 = false) (e : x.1 = m.1) : wSt m (false, o) x = (true, o ++ [(m.1, maxB x.2 m.2)]) := by unfold wSt; rw [if_neg (by simp), if_neg (by rw [h]; simp), if_pos e]
theorem wSt_o {m x : Bm} (o : List Bm) (h : lt x.1 m.1 = false) (e : ¬ x.1 = m.1) : wSt m (false, o) x = (true, o ++ [m] ++ [x]) := by unfold wSt; rw [if_neg (by simp), if_neg (by rw [h]; simp), if_neg e]
set_option maxRecDepth 100000 in
set_option maxHeartbeats 4000000 in
/-- pewholderref2.with. -/
theorem with_any (l : List Bm) (m : Bm) (v : Value) (w : World) (hn : l.length ≤ 1000) (hz : ∀ x, x ∈ l → x.2.size < 999999) (hm : m.2.size < 999999) (hv : MsAt w v l) :
    Calls Tryz.prog 52 #[v, .agg #[.string m.1, .string m.2]] w fun e w' => ∃ u, e = .returned u ∧ w'.ownsRow w.heap.size 46 2 u (withR l m).length (flatM (withR l m)) ∧ Below w.heap.size w w' := by
  obtain ⟨p, q⟩ := m
  simp only at hm
  have HB0 := hid ((Below.refl w.heap.size w).alloc (Nat.le_refl _) (.cells #[.string p, .string q] 46))
  have HM0 := hid (heap_new w (.cells #[.string p, .string q] 46))
  have HV := hid (fun W (h : Below w.heap.size w W) => hv.below h)
  have HMX := hid (fun (x : ByteArray) (hx : x.size < 999999) W => maxOf_any x q W hx hm)
  have HZ := hid hz
  have HNM := hid (show l.length ≤ 1000000 by omega)
  have HN := hid hn
  obtain ⟨i0, hi0, hz0, hz1, hz2⟩ := info_parts infoMod
  obtain ⟨va, vc, hv1, -⟩ := id hv
  subst hv1
  have HWA := hid (wN_all l (p, q))
  generalize withR l (p, q) = WR at *
  clear hv hz hn hm
  go_enter Tryz.func52, Tryz.ntmps52
  go_wp2_with fail
  generalize w.alloc (.cells #[.string p, .string q] 46) = w0 at *
  go_loopw [5, 6, 7] (fun ov dv iv wr => ∃ i : Nat, i ≤ l.length ∧ iv = .int .i64 i ∧ dv = .bool (wN l (p, q) i).1 ∧ Hid (wr.ownsRow w0.heap.size 46 2 ov (wN l (p, q) i).2.length (flatM (wN l (p, q) i).2)) ∧ Hid (Below w0.heap.size w0 wr)) (fun _ _ iv _ => l.length - (intOf iv).toNat)
  case atStart => exact ⟨0, Nat.zero_le _, rfl, rfl, hid (World.ownsRow_nil _ _ _ _), hid (Below.refl _ _)⟩
  case round =>
    obtain ⟨i, hi, rfl, rfl, HOW, HBr⟩ := hrel
    have HMr := hid ((HBr.out.block _ (lt_of_blk HM0.out)).trans HM0.out)
    have HBw := hid (HB0.out.trans (HBr.out.mono HB0.out.size))
    obtain ⟨m0, m1, mf⟩ := box2J HMr.out
    have HMS := hid (lt_of_blk HMr.out)
    by_cases hlt : i < l.length
    · have hiI := ix_lt hlt
      have hii := ix_pos i
      have HLI := hid hlt
      have HNX := hid (wN_next (m := (p, q)) hlt)
      have HSLs := hid (show (wN l (p, q) i).2.length ≤ 2000 from Nat.le_trans (wN_len l (p, q) i) (by have := HN.out; omega))
      obtain ⟨xb, xo, hxa, y0, y1⟩ := (HV.out _ HBw.out).cells hlt
      subst hxa
      have HXB := hid (show xb < w.heap.size from lt_of_cell (ms_atJ (HV.out _ (Below.refl _ _)) hlt).1)
      have HXL := hid (show xb < wr.heap.size from Nat.lt_of_lt_of_le HXB.out HBw.out.size)
      have HZX := hid (HZ.out l[i] (List.getElem_mem hlt))
      generalize l[i] = x at *
      obtain ⟨x1, x2⟩ := x
      simp only at y0 y1
      obtain ⟨dn, SX⟩ : ∃ s, s = wN l (p, q) i := ⟨_, rfl⟩
      rw [← SX] at HOW HNX HSLs ⊢
      clear SX
      obtain ⟨dn, SX⟩ := dn
      simp only at HOW HSLs ⊢
      clear hlt
      cases dn with
      | true =>
        rw [wSt_t] at HNX
        have HSLa := HSLs
        go_wp2_with fail
        go_quiet (fail)
        have HDx := hid (below_drawn wr nq)
        obtain ⟨wx, hwx⟩ : ∃ wz0, wr.drewN nq = wz0 := ⟨_, rfl⟩
        rw [hwx] at HDx ⊢
        clear hwx
        replace y0 := cell_below HDx.out y0
        replace y1 := cell_below HDx.out y1
        replace m0 := cell_below HDx.out m0
        replace m1 := cell_below HDx.out m1
        replace mf : ∀ o, wx.frozen? ⟨w.heap.size, o, none⟩ = false := fun o => by rw [HDx.out.frozen (HMS.out)]; exact mf o
        have HMSx := hid (Nat.lt_of_lt_of_le HMS.out HDx.out.size)
        have HOx := hid (owns_below HOW.out HDx.out)
        have HBx := hid (HBr.out.trans (HDx.out.mono HBr.out.size))
        clear nq
        go_wp2_with (at_builtin; refine wpList_append_own _ rfl _ _ 23 rfl w0.heap.size 46 i0 _ 2 32 Tryz.underlying23 hi0 hz0 hz1 hz2 rfl (by decide) _ _ _ rfl (HOx.out.alloc _) ⟨wx.heap.size, 0, none⟩ 1 1 [.string x1, .string x2] rfl rfl (World.news_of_block (heap_new _ _)) (by intro u hu; simp at hu; rcases hu with rfl | rfl <;> rfl) (Nat.le_trans (Nat.add_le_add_right HSLa.out 1) (by unfold maxLen; decide)) (by have hz := HSLa.out; omega) (Nat.le_trans HBx.out.size (by simp)) ?_)
        intro va wa hown hgrow _
        have HBa := hid (rel_app2 HBx.out.size HBx.out HOx.out (Below.refl _ _) hgrow)
        have HOa := hid (show wa.ownsRow w0.heap.size 46 2 va (SX ++ [(x1, x2)]).length (flatM (SX ++ [(x1, x2)])) by rw [List.length_append, flatM_app]; exact hown)
        clear hown hgrow
        go_wp2_with fail
        go_roundw
        case rel => first | exact ⟨i + 1, HLI.out, nr_idx i, by rw [HNX.out], hid (by rw [HNX.out]; exact HOa.out), HBa⟩ | exact ⟨i + 1, HLI.out, nx_idx HLI.out HNM.out, by rw [HNX.out], hid (by rw [HNX.out]; exact HOa.out), HBa⟩
        case measure => first | exact nr_meas HLI.out | exact nx_meas HLI.out HNM.out
      | false =>
        have hge := fun W => geqB x1 p W
        cases hl : lt x1 p with
        | true =>
          rw [wSt_l SX (x := (x1, x2)) (m := (p, q)) hl] at HNX
          rw [hl] at hge
          have HSLa := HSLs
          clear hl
          go_wp2_with fail
          go_quiet (fail)
          have HDx := hid (below_drawn wr nq)
          obtain ⟨wx, hwx⟩ : ∃ wz0, wr.drewN nq = wz0 := ⟨_, rfl⟩
          rw [hwx] at HDx ⊢
          clear hwx
          replace y0 := cell_below HDx.out y0
          replace y1 := cell_below HDx.out y1
          replace m0 := cell_below HDx.out m0
          replace m1 := cell_below HDx.out m1
          replace mf : ∀ o, wx.frozen? ⟨w.heap.size, o, none⟩ = false := fun o => by rw [HDx.out.frozen (HMS.out)]; exact mf o
          have HMSx := hid (Nat.lt_of_lt_of_le HMS.out HDx.out.size)
          have HOx := hid (owns_below HOW.out HDx.out)
          have HBx := hid (HBr.out.trans (HDx.out.mono HBr.out.size))
          clear nq
          go_wp2_with (at_builtin; refine wpList_append_own _ rfl _ _ 23 rfl w0.heap.size 46 i0 _ 2 32 Tryz.underlying23 hi0 hz0 hz1 hz2 rfl (by decide) _ _ _ rfl (HOx.out.alloc _) ⟨wx.heap.size, 0, none⟩ 1 1 [.string x1, .string x2] rfl rfl (World.news_of_block (heap_new _ _)) (by intro u hu; simp at hu; rcases hu with rfl | rfl <;> rfl) (Nat.le_trans (Nat.add_le_add_right HSLa.out 1) (by unfold maxLen; decide)) (by have hz := HSLa.out; omega) (Nat.le_trans HBx.out.size (by simp)) ?_)
          intro va wa hown hgrow _
          have HBa := hid (rel_app2 HBx.out.size HBx.out HOx.out (Below.refl _ _) hgrow)
          have HOa := hid (show wa.ownsRow w0.heap.size 46 2 va (SX ++ [(x1, x2)]).length (flatM (SX ++ [(x1, x2)])) by rw [List.length_append, flatM_app]; exact hown)
          clear hown hgrow
          go_wp2_with fail
          go_roundw
          case rel => first | exact ⟨i + 1, HLI.out, nr_idx i, by rw [HNX.out], hid (by rw [HNX.out]; exact HOa.out), HBa⟩ | exact ⟨i + 1, HLI.out, nx_idx HLI.out HNM.out, by rw [HNX.out], hid (by rw [HNX.out]; exact HOa.out), HBa⟩
          case measure => first | exact nr_meas HLI.out | exact nx_meas HLI.out HNM.out
        | false =>
          rw [hl] at hge
          by_cases he : x1 = p
          · rw [wSt_e SX (x := (x1, x2)) (m := (p, q)) hl he] at HNX
            subst he
            have heq := str_refl x1
            have HSLa := HSLs
            have HMM := hid (HMX.out x2 HZX.out)
            clear hl
            go_wp2_with fail
            go_quiet (fail)
            have HDx := hid (below_drawn wr nq)
            obtain ⟨wx, hwx⟩ : ∃ wz0, wr.drewN nq = wz0 := ⟨_, rfl⟩
            rw [hwx] at HDx ⊢
            clear hwx
            replace y0 := cell_below HDx.out y0
            replace y1 := cell_below HDx.out y1
            replace m0 := cell_below HDx.out m0
            replace m1 := cell_below HDx.out m1
            replace mf : ∀ o, wx.frozen? ⟨w.heap.size, o, none⟩ = false := fun o => by rw [HDx.out.frozen (HMS.out)]; exact mf o
            have HMSx := hid (Nat.lt_of_lt_of_le HMS.out HDx.out.size)
            have HOx := hid (owns_below HOW.out HDx.out)
            have HBx := hid (HBr.out.trans (HDx.out.mono HBr.out.size))
            clear nq
            go_wp2_with fail
            go_quiet (fail)
            have HDy := hid (below_drawn wx nq)
            obtain ⟨wy, hwx⟩ : ∃ wz0, wx.drewN nq = wz0 := ⟨_, rfl⟩
            rw [hwx] at HDy ⊢
            clear hwx
            replace y0 := cell_below HDy.out y0
            replace y1 := cell_below HDy.out y1
            replace m0 := cell_below HDy.out m0
            replace m1 := cell_below HDy.out m1
            replace mf : ∀ o, wy.frozen? ⟨w.heap.size, o, none⟩ = false := fun o => by rw [HDy.out.frozen (HMSx.out)]; exact mf o
            have HMSy := hid (Nat.lt_of_lt_of_le HMSx.out HDy.out.size)
            have HOy := hid (owns_below HOx.out HDy.out)
            have HBy := hid (HBx.out.trans (HDy.out.mono HBx.out.size))
            clear nq
            have HNE := hid (show some w.heap.size ≠ u5.ownBlock from fun h => Nat.lt_irrefl _ (Nat.lt_of_lt_of_le (lt_of_blk HM0.out) (own_lt HOy.out h.symm).2))
            have HSZ := hid (show w.heap.size < wy.heap.size from Nat.lt_of_lt_of_le (lt_of_blk HM0.out) HBy.out.size)
            have HT := hid (fun W' (hW : Below wy.heap.size wy W') => (show (fun W' => W'.cell? ⟨w.heap.size, 0, none⟩ = some (.string x1) ∧ W'.cell? ⟨w.heap.size, 1, none⟩ = some (.string q) ∧ W'.cell? ⟨xb, xo + i * 2 + 1, none⟩ = some (.string x2) ∧ Hid (w.heap.size < W'.heap.size)) W' from ⟨cell_below hW m0, cell_below hW m1, cell_below hW y1, hid (Nat.lt_of_lt_of_le HSZ.out hW.size)⟩))
            have HXE := hid (show some xb ≠ u5.ownBlock from fun h => by
              have h1 := (own_lt HOy.out h.symm).2
              have h2 := HXB.out
              have h3 := HB0.out.size
              omega)
            go_wp2_with fail
            go_region_held_law (fun W' => W'.cell? ⟨w.heap.size, 0, none⟩ = some (.string x1) ∧ W'.cell? ⟨w.heap.size, 1, none⟩ = some (.string q) ∧ W'.cell? ⟨xb, xo + i * 2 + 1, none⟩ = some (.string x2) ∧ Hid (w.heap.size < W'.heap.size)) (first | exact keep_grow3 HR9.out (HT.out _ HRa.out) (Nat.lt_of_lt_of_le HXL.out (Nat.le_trans (Nat.le_trans HDx.out.size HDy.out.size) HRa.out.size)) HNE.out HXE.out | exact HT.out _ (HRa.out.alloc HRa.out.size _) | exact HT.out _ HRa.out | exact HT.out _ (below_drawn _ 1)) (first
              | (go_at_call 81; refine (HMM.out _).mono ?_; rintro e w3 ⟨rfl, hb⟩; have HRa := hid ((below_drawn wy 1).trans (hb.mono (Nat.le_refl _))); clear hb)
              | (refine step_append_lies _ (by rfl) _ _ 23 (by rfl) w0.heap.size 46 i0 _ 2 32 Tryz.underlying23 hi0 hz0 hz1 hz2 rfl (by decide) _ _ _ (by rfl) ((owns_below HOy.out HRa.out).alloc _) ⟨w3.heap.size, 0, none⟩ 1 1 [.string x1, .string (maxB x2 q)] (by rfl) rfl (World.news_of_block (heap_new _ _)) (by intro u hu; simp at hu; rcases hu with rfl | rfl <;> rfl) (by decide) (Nat.le_trans (Nat.add_le_add_right HSLa.out 1) (by unfold maxLen; decide)) (by have := HSLa.out; omega) (Nat.le_trans HBy.out.size (Nat.le_trans HRa.out.size (by simp))) (w3.heap.size + 1) (by simp) ?_; intro g cap wa hown hgrow hat hlt2; have HR9 := hid hgrow))
            all_goals
              have HBa := hid (rel_app2 HBy.out.size HBy.out HOy.out HRa.out hgrow)
              have HOa := hid (show wa.ownsRow w0.heap.size 46 2 (.slice (some ⟨g, 0, none⟩) (SX.length + 1) cap) (SX ++ [(x1, maxB x2 q)]).length (flatM (SX ++ [(x1, maxB x2 q)])) by rw [List.length_append, flatM_app]; exact hown)
              clear hown hgrow hat hlt2 HR9 m0 m1 mf
              go_wp2_with fail
              go_roundw
              case rel => first | exact ⟨i + 1, HLI.out, nr_idx i, by rw [HNX.out], hid (by rw [HNX.out]; exact HOa.out), HBa⟩ | exact ⟨i + 1, HLI.out, nx_idx HLI.out HNM.out, by rw [HNX.out], hid (by rw [HNX.out]; exact HOa.out), HBa⟩
              case measure => first | exact nr_meas HLI.out | exact nx_meas HLI.out HNM.out
          · rw [wSt_o SX (x := (x1, x2)) (m := (p, q)) hl he] at HNX
            have heq := str_ne he
            have HSLa := HSLs
            clear hl he
            go_wp2_with fail
            go_quiet (fail)
            have HDx := hid (below_drawn wr nq)
            obtain ⟨wx, hwx⟩ : ∃ wz0, wr.drewN nq = wz0 := ⟨_, rfl⟩
            rw [hwx] at HDx ⊢
            clear hwx
            replace y0 := cell_below HDx.out y0
            replace y1 := cell_below HDx.out y1
            replace m0 := cell_below HDx.out m0
            replace m1 := cell_below HDx.out m1
            replace mf : ∀ o, wx.frozen? ⟨w.heap.size, o, none⟩ = false := fun o => by rw [HDx.out.frozen (HMS.out)]; exact mf o
            have HMSx := hid (Nat.lt_of_lt_of_le HMS.out HDx.out.size)
            have HOx := hid (owns_below HOW.out HDx.out)
            have HBx := hid (HBr.out.trans (HDx.out.mono HBr.out.size))
            clear nq
            go_wp2_with fail
            go_quiet (fail)
            have HDy := hid (below_drawn wx nq)
            obtain ⟨wy, hwx⟩ : ∃ wz0, wx.drewN nq = wz0 := ⟨_, rfl⟩
            rw [hwx] at HDy ⊢
            clear hwx
            replace y0 := cell_below HDy.out y0
            replace y1 := cell_below HDy.out y1
            replace m0 := cell_below HDy.out m0
            replace m1 := cell_below HDy.out m1
            replace mf : ∀ o, wy.frozen? ⟨w.heap.size, o, none⟩ = false := fun o => by rw [HDy.out.frozen (HMSx.out)]; exact mf o
            have HMSy := hid (Nat.lt_of_lt_of_le HMSx.out HDy.out.size)
            have HOy := hid (owns_below HOx.out HDy.out)
            have HBy := hid (HBx.out.trans (HDy.out.mono HBx.out.size))
            clear nq
            go_wp2_with (at_builtin; refine wpList_append_own _ rfl _ _ 23 rfl w0.heap.size 46 i0 _ 2 32 Tryz.underlying23 hi0 hz0 hz1 hz2 rfl (by decide) _ _ _ rfl (HOy.out.alloc _) ⟨wy.heap.size, 0, none⟩ 1 1 [.string p, .string q] rfl rfl (World.news_of_block (heap_new _ _)) (by intro u hu; simp at hu; rcases hu with rfl | rfl <;> rfl) (Nat.le_trans (Nat.add_le_add_right HSLa.out 1) (by unfold maxLen; decide)) (by have hz := HSLa.out; omega) (Nat.le_trans HBy.out.size (by simp)) ?_)
            intro va wa hown hgrow _
            have HBa := hid (rel_app2 HBy.out.size HBy.out HOy.out (Below.refl _ _) hgrow)
            have HOa := hid (show wa.ownsRow w0.heap.size 46 2 va (SX ++ [(p, q)]).length (flatM (SX ++ [(p, q)])) by rw [List.length_append, flatM_app]; exact hown)
            clear hown hgrow
            have hbl : wa.heap[xb]? = wy.heap[xb]? := (HBa.out.block xb (Nat.lt_of_lt_of_le HXB.out HB0.out.size)).trans (HBy.out.block xb (Nat.lt_of_lt_of_le HXB.out HB0.out.size)).symm
            have z0 : wa.cell? ⟨xb, xo + i * 2, none⟩ = some (.string x1) := by rw [World.cell?_of_block hbl]; exact y0
            have z1 : wa.cell? ⟨xb, xo + i * 2 + 1, none⟩ = some (.string x2) := by rw [World.cell?_of_block hbl]; exact y1
            clear hbl
            have HSLb := hid (show (SX ++ [(p, q)]).length ≤ 2001 by rw [List.length_append]; exact Nat.add_le_add_right HSLs.out 1)
            go_wp2_with (at_builtin; refine wpList_append_own _ rfl _ _ 23 rfl w0.heap.size 46 i0 _ 2 32 Tryz.underlying23 hi0 hz0 hz1 hz2 rfl (by decide) _ _ _ rfl (HOa.out.alloc _) ⟨wa.heap.size, 0, none⟩ 1 1 [.string x1, .string x2] rfl rfl (World.news_of_block (heap_new _ _)) (by intro u hu; simp at hu; rcases hu with rfl | rfl <;> rfl) (Nat.le_trans (Nat.add_le_add_right HSLb.out 1) (by unfold maxLen; decide)) (by have hz := HSLb.out; omega) (Nat.le_trans HBa.out.size (by simp)) ?_)
            intro vb wb hown hgrow _
            have HBb := hid (rel_app2 HBa.out.size HBa.out HOa.out (Below.refl _ _) hgrow)
            have HOb := hid (show wb.ownsRow w0.heap.size 46 2 vb ((SX ++ [(p, q)]) ++ [(x1, x2)]).length (flatM ((SX ++ [(p, q)]) ++ [(x1, x2)])) by rw [List.length_append, List.length_append, flatM_app]; exact hown)
            clear hown hgrow
            go_wp2_with fail
            go_roundw
            case rel => first | exact ⟨i + 1, HLI.out, nr_idx i, by rw [HNX.out], hid (by rw [HNX.out]; exact HOb.out), HBb⟩ | exact ⟨i + 1, HLI.out, nx_idx HLI.out HNM.out, by rw [HNX.out], hid (by rw [HNX.out]; exact HOb.out), HBb⟩
            case measure => first | exact nr_meas HLI.out | exact nx_meas HLI.out HNM.out
    · have hiI := ix_nlt hlt
      have hie : i = l.length := Nat.le_antisymm hi (Nat.le_of_not_lt hlt)
      have HFI := HWA
      rw [← hie] at HFI
      obtain ⟨dn, SX⟩ : ∃ s, s = wN l (p, q) i := ⟨_, rfl⟩
      have HSLs := hid (show (wN l (p, q) i).2.length ≤ 2000 from Nat.le_trans (wN_len l (p, q) i) (by have := HN.out; omega))
      rw [← SX] at HOW HFI HSLs ⊢
      clear SX hie hlt HWA
      obtain ⟨dn, SX⟩ := dn
      simp only at HOW HSLs ⊢
      cases dn with
      | true =>
        have HW := hid (show SX = WR from HFI.out)
        rw [HW.out] at HOW
        go_wp2_with fail
        go_ret
        exact ⟨_, rfl, own_base HOW.out HB0.out.size, HBw.out⟩
      | false =>
        have HW := hid (show SX ++ [(p, q)] = WR from HFI.out)
        have HSLa := HSLs
        go_wp2_with (at_builtin; refine wpList_append_own _ rfl _ _ 23 rfl w0.heap.size 46 i0 _ 2 32 Tryz.underlying23 hi0 hz0 hz1 hz2 rfl (by decide) _ _ _ rfl (HOW.out.alloc _) ⟨wr.heap.size, 0, none⟩ 1 1 [.string p, .string q] rfl rfl (World.news_of_block (heap_new _ _)) (by intro u hu; simp at hu; rcases hu with rfl | rfl <;> rfl) (Nat.le_trans (Nat.add_le_add_right HSLa.out 1) (by unfold maxLen; decide)) (by have hz := HSLa.out; omega) (Nat.le_trans HBr.out.size (by simp)) ?_)
        intro va wa hown hgrow _
        have HBa := hid (rel_app2 HBr.out.size HBr.out HOW.out (Below.refl _ _) hgrow)
        have HOa := hid (show wa.ownsRow w0.heap.size 46 2 va (SX ++ [(p, q)]).length (flatM (SX ++ [(p, q)])) by rw [List.length_append, flatM_app]; exact hown)
        clear hown hgrow
        rw [HW.out] at HOa
        have HBe := hid (HB0.out.trans (HBa.out.mono HB0.out.size))
        go_wp2_with fail
        go_ret
        exact ⟨_, rfl, own_base HOa.out HB0.out.size, HBe.out⟩
set_option maxRecDepth 100000 in
set_option maxHeartbeats 4000000 in
/-- JoinOf. -/
theorem jo_any (a b : List Bm) (va vb : Value) (w : World) (ha : a.length ≤ 400) (hb : b.length ≤ 400) (hza : ∀ x, x ∈ a → x.1.size < 999999 ∧ x.2.size < 999999) (hzb : ∀ x, x ∈ b → x.1.size < 999999 ∧ x.2.size < 999999) (hA : MsAt w va a) (hB : MsAt w vb b) :
    Calls Tryz.prog 21 #[va, vb] w fun e w' => ∃ ja jc, e = .returned (.slice ja (jL a b).length jc) ∧ Mr w w' (.slice ja (jL a b).length jc) (jL a b) := by
  have HME := hid (fun (x : Bm) (hx : x.1.size < 999999 ∧ x.2.size < 999999) W => show Calls Tryz.prog 51 #[.agg #[.string x.1, .string x.2]] W fun e w' => e = .returned (.int .i64 (mErr x : Nat)) ∧ Below W.heap.size W w' from modError_any x.1 x.2 W (by omega) (by omega))
  have HWI := hid (fun (E : List Bm) (x : Bm) (ev : Value) W (hE : E.length ≤ 1000) (hz : ∀ y, y ∈ E → y.2.size < 999999) (hx : x.2.size < 999999) (hm : MsAt W ev E) => with_any E x ev W hE hz hx hm)
  have HA := hid (fun W (h : Below w.heap.size w W) => hA.below h)
  have HB := hid (fun W (h : Below w.heap.size w W) => hB.below h)
  have HZA := hid hza
  have HZB := hid hzb
  have ham : a.length ≤ 1000000 := by omega
  have hbm : b.length ≤ 1000000 := by omega
  have HSA := hid (fun i e (he : e ∈ (a.take i).foldl jSt []) => (hza e (jN_sub a i e he)).2)
  have HSB := hid (fun i e (he : e ∈ (b.take i).foldl jSt (a.foldl jSt [])) => show e.2.size < 999999 by rcases jN_sub2 a b i e he with h | h; exact (hza e h).2; exact (hzb e h).2)
  have HLA := hid (fun i => show ((a.take i).foldl jSt []).length ≤ 1000 by have h1 := jN_len [] (a.take i); have h2 := List.length_take_le' i a; simp only [List.length_nil] at h1; omega)
  have HLB := hid (fun i => show ((b.take i).foldl jSt (a.foldl jSt [])).length ≤ 1000 by have h1 := jN_len (a.foldl jSt []) (b.take i); have h2 := List.length_take_le' i b; have h3 := jN_len [] a; simp only [List.length_nil] at h3; omega)
  obtain ⟨aa, ac, hv1, -⟩ := id hA
  subst hv1
  obtain ⟨ba, bc, hv2, -⟩ := id hB
  subst hv2
  unfold jL
  clear hA hB hza hzb
  go_enter Tryz.func21, Tryz.ntmps21
  go_wp2_with fail
  go_loopw [5, 6] (fun ov iv wr => ∃ k : Nat, k ≤ a.length ∧ iv = .int .i64 k ∧ Hid (Mr w wr ov ((a.take k).foldl jSt []))) (fun _ iv _ => a.length - (intOf iv).toNat)
  case atStart => exact ⟨0, Nat.zero_le _, rfl, hid (mr_nil0 (Below.refl _ _))⟩
  case round =>
    obtain ⟨k, hk, rfl, HM⟩ := hrel
    by_cases hlt : k < a.length
    · have hkI := ix_lt hlt
      have hk0 := ix_pos k
      have HLT := hid hlt
      obtain ⟨xb, xo, hxa, x0, x1⟩ := (HA.out _ HM.out.1).cells hlt
      subst hxa
      have HNX := hid (jN_next (E := []) hlt)
      have HXZ := hid (HZA.out a[k] (List.getElem_mem hlt))
      have HEZ := hid (HSA.out k)
      have HEL := hid (HLA.out k)
      obtain ⟨E, hE⟩ : ∃ E, (a.take k).foldl jSt [] = E := ⟨_, rfl⟩
      rw [hE] at HM HNX HEZ HEL
      generalize a[k] = x at *
      have HMK := hid (HME.out x HXZ.out)
      obtain ⟨ea, ec, hov⟩ := HM.out.sl
      subst hov
      obtain ⟨x1', x2'⟩ := x
      simp only at x0 x1 HMK
      clear hlt hE
      by_cases h0 : mErr (x1', x2') = 0
      · rw [h0] at HMK
        have HJS := hid (show jSt E (x1', x2') = withR E (x1', x2') from if_pos h0)
        clear h0
        go_wp2_with fail
        refine (HMK.out _).mono ?_
        rintro e w1 ⟨rfl, hb1⟩
        have HB1 := hid (HM.out.1.trans (hb1.mono HM.out.1.size))
        have HW1 := hid (HWI.out E (x1', x2') _ w1 HEL.out HEZ.out HXZ.out.2 (HM.out.ms.below hb1))
        have y0 := cell_below hb1 x0
        have y1 := cell_below hb1 x1
        clear hb1 x0 x1
        go_wp2_with fail
        refine HW1.out.mono ?_
        rintro e w2 ⟨nu, rfl, ho, hb2⟩
        have HM2 := hid ((mr_own ho hb2).base HB1.out)
        clear ho hb2 y0 y1
        go_wp2_with fail
        go_roundw
        case rel => first | exact ⟨k + 1, HLT.out, nr_idx k, hid (by rw [HNX.out, HJS.out]; exact HM2.out)⟩ | exact ⟨k + 1, HLT.out, nx_idx HLT.out ham, hid (by rw [HNX.out, HJS.out]; exact HM2.out)⟩
        case measure => first | exact nr_meas HLT.out | exact nx_meas HLT.out ham
      · have HJS := hid (show jSt E (x1', x2') = E from if_neg h0)
        have hpos : ¬ ((mErr (x1', x2') : Nat) : Int) = 0 := by omega
        have hpos2 : (((mErr (x1', x2') : Nat) : Int) == 0) = false := by simp; omega
        generalize mErr (x1', x2') = z at *
        clear h0
        go_wp2_with fail
        refine (HMK.out _).mono ?_
        rintro e w1 ⟨rfl, hb1⟩
        have HM2 := hid (show Mr w w1 _ E from HM.out.below hb1)
        clear hb1 x0 x1
        go_wp2_with fail
        go_roundw
        case rel => first | exact ⟨k + 1, HLT.out, nr_idx k, hid (by rw [HNX.out, HJS.out]; exact HM2.out)⟩ | exact ⟨k + 1, HLT.out, nx_idx HLT.out ham, hid (by rw [HNX.out, HJS.out]; exact HM2.out)⟩
        case measure => first | exact nr_meas HLT.out | exact nx_meas HLT.out ham
    · have hkI := ix_nlt hlt
      have hie : k = a.length := Nat.le_antisymm hk (Nat.le_of_not_lt hlt)
      have HTA := hid (show a.take k = a from List.take_of_length_le (by omega))
      rw [HTA.out] at HM
      clear hlt hie HTA HSA HLA
      obtain ⟨EA, HEA⟩ : ∃ EA, Hid (a.foldl jSt [] = EA) := ⟨_, hid rfl⟩
      rw [HEA.out] at HM HSB HLB
      go_wp2_with fail
      go_loopw [5, 7] (fun ov iv wr => ∃ k : Nat, k ≤ b.length ∧ iv = .int .i64 k ∧ Hid (Mr w wr ov ((b.take k).foldl jSt EA))) (fun _ iv _ => b.length - (intOf iv).toNat)
      case atStart => exact ⟨0, Nat.zero_le _, rfl, HM⟩
      case round =>
        obtain ⟨k, hk, rfl, HM⟩ := hrel
        by_cases hlt : k < b.length
        · have hkI := ix_lt hlt
          have hk0 := ix_pos k
          have HLT := hid hlt
          obtain ⟨xb, xo, hxa, x0, x1⟩ := (HB.out _ HM.out.1).cells hlt
          subst hxa
          have HNX := hid (jN_next (E := EA) hlt)
          have HXZ := hid (HZB.out b[k] (List.getElem_mem hlt))
          have HEZ := hid (HSB.out k)
          have HEL := hid (HLB.out k)
          obtain ⟨E, hE⟩ : ∃ E, (b.take k).foldl jSt EA = E := ⟨_, rfl⟩
          rw [hE] at HM HNX HEZ HEL
          generalize b[k] = x at *
          have HMK := hid (HME.out x HXZ.out)
          obtain ⟨ea, ec, hov⟩ := HM.out.sl
          subst hov
          obtain ⟨x1', x2'⟩ := x
          simp only at x0 x1 HMK
          clear hlt hE
          by_cases h0 : mErr (x1', x2') = 0
          · rw [h0] at HMK
            have HJS := hid (show jSt E (x1', x2') = withR E (x1', x2') from if_pos h0)
            clear h0
            go_wp2_with fail
            refine (HMK.out _).mono ?_
            rintro e w1 ⟨rfl, hb1⟩
            have HB1 := hid (HM.out.1.trans (hb1.mono HM.out.1.size))
            have HW1 := hid (HWI.out E (x1', x2') _ w1 HEL.out HEZ.out HXZ.out.2 (HM.out.ms.below hb1))
            have y0 := cell_below hb1 x0
            have y1 := cell_below hb1 x1
            clear hb1 x0 x1
            go_wp2_with fail
            refine HW1.out.mono ?_
            rintro e w2 ⟨nu, rfl, ho, hb2⟩
            have HM2 := hid ((mr_own ho hb2).base HB1.out)
            clear ho hb2 y0 y1
            go_wp2_with fail
            go_roundw
            case rel => first | exact ⟨k + 1, HLT.out, nr_idx k, hid (by rw [HNX.out, HJS.out]; exact HM2.out)⟩ | exact ⟨k + 1, HLT.out, nx_idx HLT.out hbm, hid (by rw [HNX.out, HJS.out]; exact HM2.out)⟩
            case measure => first | exact nr_meas HLT.out | exact nx_meas HLT.out hbm
          · have HJS := hid (show jSt E (x1', x2') = E from if_neg h0)
            have hpos : ¬ ((mErr (x1', x2') : Nat) : Int) = 0 := by omega
            have hpos2 : (((mErr (x1', x2') : Nat) : Int) == 0) = false := by simp; omega
            generalize mErr (x1', x2') = z at *
            clear h0
            go_wp2_with fail
            refine (HMK.out _).mono ?_
            rintro e w1 ⟨rfl, hb1⟩
            have HM2 := hid (show Mr w w1 _ E from HM.out.below hb1)
            clear hb1 x0 x1
            go_wp2_with fail
            go_roundw
            case rel => first | exact ⟨k + 1, HLT.out, nr_idx k, hid (by rw [HNX.out, HJS.out]; exact HM2.out)⟩ | exact ⟨k + 1, HLT.out, nx_idx HLT.out hbm, hid (by rw [HNX.out, HJS.out]; exact HM2.out)⟩
            case measure => first | exact nr_meas HLT.out | exact nx_meas HLT.out hbm
        · have hkI := ix_nlt hlt
          have hie : k = b.length := Nat.le_antisymm hk (Nat.le_of_not_lt hlt)
          have HTB := hid (show b.take k = b from List.take_of_length_le (by omega))
          rw [HTB.out] at HM
          clear hlt hie HTB HSB HLB
          obtain ⟨oa, oc, hov⟩ := HM.out.sl
          subst hov
          go_wp2_with fail
          go_ret
          have hEA := HEA.out
          subst hEA
          exact ⟨_, _, rfl, HM.out⟩
end Ve
end Go.Proofs.YtoaobngpdaidoaaGreatDoor
