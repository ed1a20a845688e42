/-
  mvs.Join: of each path of both the greater version.
-/
import Derived.Test.YtanponneancajaaGreatDoorMvF
namespace Go.Proofs.YtanponneancajaaGreatDoor
open Go.RowKit
namespace Ve

theorem insM_nil (a : Option Addr) (c : Nat) (W : World) : Calls Tryz.prog 249 #[.slice a 0 c, .int .i64 0, .int .i64 0, .func (.func 170) #[] #[]] W fun e w' => e = .returned (.tuple #[]) ∧ w' = W := by
  go_enter Tryz.func249, Tryz.ntmps249
  go_wp2_with fail
  go_loop [8] (fun i => i = .int .i64 1) (fun _ => 0)
  case atStart => rfl
  case round =>
    obtain rfl := hrel
    go_wp2_with fail
    go_end0
    exact ⟨rfl, rfl⟩
set_option maxRecDepth 100000 in
set_option maxHeartbeats 2000000 in
theorem pdqM_nil (a : Option Addr) (c : Nat) (n : Int) (W : World) : Calls Tryz.prog 215 #[.slice a 0 c, .int .i64 0, .int .i64 0, .int .i64 n, .func (.func 170) #[] #[]] W fun e w' => e = .returned (.tuple #[]) ∧ w' = W := by
  have HI := hid (insM_nil a c W)
  go_enter Tryz.func215, Tryz.ntmps215
  go_wp2_with fail
  go_loop [1, 2, 3, 10, 11] (fun a b _ _ _ => a = .int .i64 0 ∧ b = .int .i64 0) (fun _ _ _ _ _ => 0)
  case atStart => exact ⟨rfl, rfl⟩
  case round =>
    obtain ⟨rfl, rfl⟩ := hrel
    go_wp2_with fail
    refine HI.out.mono ?_
    rintro e w' ⟨rfl, rfl⟩
    go_wp2_with fail
    first | (go_end0; exact ⟨rfl, rfl⟩) | (go_ret; exact ⟨rfl, rfl⟩) | (refine bodyPost_ret (v := .tuple #[]) (by simp [results, Tryz.results215]) rfl ⟨rfl, rfl⟩)
set_option maxHeartbeats 1000000 in
theorem sortM_nil (a : Option Addr) (c : Nat) (W : World) : Calls Tryz.prog 169 #[.slice a 0 c, .func (.func 170) #[] #[]] W fun e w' => e = .returned (.tuple #[]) ∧ Below W.heap.size W w' := by
  have HLN := hid (show Calls Tryz.prog 212 #[.int .u64 0] W fun e w' => e = .returned (.int .i64 (Lib.bitLen 0 : Nat)) ∧ w' = W from by
    have h := Any.bits_Len (SlLaysF0.n15.bits (P := Tryz.prog) (ρ := Tryz.sortMods_ren) { Tryz.sortMods with }) 0 W (by omega) (by omega)
    exact h)
  have HP := hid (fun n => pdqM_nil a c n W)
  go_enter Tryz.func169, Tryz.ntmps169
  go_wp2_with fail
  refine HLN.out.mono ?_
  rintro e w' ⟨rfl, rfl⟩
  go_wp2_with fail
  refine (HP.out _).mono ?_
  rintro e w' ⟨rfl, rfl⟩
  go_wp2_with fail
  go_end0
  exact ⟨rfl, Below.refl _ _⟩
set_option maxHeartbeats 1000000 in
theorem delM_nil (a : Option Addr) (c : Nat) (W : World) : Calls Tryz.prog 173 #[.slice a 0 c, .func (.func 174) #[] #[]] W fun e w' => e = .returned (.slice a 0 c) ∧ Below W.heap.size W w' := by
  have HI := hid (idxM_none 174 #[] a c W)
  go_enter Tryz.func173, Tryz.ntmps173
  go_wp2_with fail
  refine HI.out.mono ?_
  rintro e w1 ⟨rfl, hb⟩
  have HB := hid hb
  clear hb
  go_wp2_with fail
  go_ret
  exact ⟨rfl, HB.out⟩
/-- A row of modules that a call owns: nothing, or in a block of its own. -/
def Mr (w0 W : World) (v : Value) (D : List Bm) : Prop := Below w0.heap.size w0 W ∧ ∃ a cap, v = .slice a D.length cap ∧ D.length ≤ cap ∧ ((D = [] ∧ (a = none → cap = 0)) ∨ ∃ g, a = some ⟨g, 0, none⟩ ∧ Mw w0 W g D)
theorem Mr.ms {w0 W : World} {v : Value} {D : List Bm} (h : Mr w0 W v D) : MsAt W v D := by
  obtain ⟨_, a, cap, rfl, hc, ⟨rfl, _⟩ | ⟨g, rfl, h⟩⟩ := h
  · exact ⟨a, cap, rfl, hc, fun h => absurd rfl h⟩
  · exact h.ms hc
theorem Mr.em {w0 W : World} {v : Value} {D : List Bm} (h : Mr w0 W v D) : Em v D := by
  obtain ⟨_, a, cap, rfl, hc, h⟩ := h
  intro a' c' e hD
  injection e with e1 e2 e3
  subst e1 e3
  cases a with
  | some a' => exact Or.inr ⟨a', rfl⟩
  | none =>
    rcases h with ⟨_, h0⟩ | ⟨g, h, _⟩
    · rw [h0 rfl]; exact Or.inl rfl
    · cases h
theorem mr_own {w0 W : World} {v : Value} {L : List Bm} (h : W.ownsRow w0.heap.size 51 2 v L.length (flatM L)) (hb : Below w0.heap.size w0 W) : Mr w0 W v L := by
  by_cases hL : L = []
  · subst hL
    obtain ⟨_, ⟨rfl, _⟩ | ⟨g, cap, cur, rfl, _, _, _, _⟩⟩ := h
    · exact ⟨hb, none, 0, rfl, Nat.le_refl _, Or.inl ⟨rfl, fun _ => rfl⟩⟩
    · exact ⟨hb, _, cap, rfl, Nat.zero_le _, Or.inl ⟨rfl, fun h => by cases h⟩⟩
  · obtain ⟨g, cap, rfl, h1, _, h3⟩ := own_mw h hb hL
    exact ⟨hb, _, cap, rfl, h1, Or.inr ⟨g, rfl, h3⟩⟩
theorem Mr.base {w w0 W : World} {v : Value} {D : List Bm} (h : Mr w0 W v D) (hb : Below w.heap.size w w0) : Mr w W v D := by
  obtain ⟨h1, a, cap, rfl, hc, hk⟩ := h
  refine ⟨hb.trans (h1.mono hb.size), a, cap, rfl, hc, ?_⟩
  rcases hk with hk | ⟨g, rfl, hM⟩
  · exact Or.inl hk
  · exact Or.inr ⟨g, rfl, hb.trans (h1.mono hb.size), Nat.le_trans hb.size hM.lo, hM.hi, hM.fz, hM.c0, hM.c1⟩
theorem Mr.sl {w0 W : World} {v : Value} {D : List Bm} (h : Mr w0 W v D) : ∃ a c, v = .slice a D.length c := by
  obtain ⟨_, a, cap, rfl, _⟩ := h
  exact ⟨a, cap, rfl⟩
set_option maxHeartbeats 2000000 in
/-- mvs.right of two. -/
theorem right_any (X Y : List Bm) (va vb : Value) (lb : Nat) (A : Nat → Addr) (ml : Int) (w : World) (c0 : w.cell? ⟨lb, 0, none⟩ = some va) (c1 : w.cell? ⟨lb, 1, none⟩ = some vb) (hA : MsAt w va X) (hB : MsAt w vb Y) (eA : Em va X) (eB : Em vb Y) (lA : X.length ≤ 500) (lB : Y.length ≤ 500)
    (hz : ∀ r, r ∈ X ++ Y → r.1.size < 999999 ∧ r.2.size < 999999) (S : Te w A ml) :
    Calls Tryz.prog 125 #[.slice (some ⟨lb, 0, none⟩) 2 2] w fun e w' => ∃ v, e = .returned v ∧ Mr w w' v (rightL (X ++ Y)) := by
  have HC := hid (cat_any X Y va vb lb w c0 c1 hA hB eA eB lA lB)
  have HS := hid S
  have HZ := hid hz
  have hl : (X ++ Y).length ≤ 1000 := by simp; omega
  generalize X ++ Y = D at *
  clear hA hB eA eB S hz c0 c1
  go_enter Tryz.func125, Tryz.ntmps125
  go_wp2_with fail
  refine HC.out.mono ?_
  rintro e w1 ⟨v, rfl, hown, hb⟩
  obtain ⟨_, a, cap, rfl, hcap, hk⟩ := mr_own hown hb
  have HBL := hid hb
  clear hown hb
  rcases hk with ⟨rfl, h0⟩ | ⟨g, rfl, hM⟩
  · have HD := hid (delM_nil a cap w1)
    go_wp2_with fail
    refine HD.out.mono ?_
    rintro e w2 ⟨rfl, hb⟩
    have HB2 := hid (HBL.out.trans (hb.mono HBL.out.size))
    clear hb
    go_wp2_with fail
    go_ret
    exact ⟨_, rfl, HB2.out, a, cap, rfl, Nat.zero_le _, Or.inl ⟨rfl, h0⟩⟩
  · have HD := hid (del_mw w w1 g cap D A ml HS.out (by omega) hcap HZ.out hM)
    have HRL := hid (show (rightL D).length ≤ cap from Nat.le_trans (List.length_filter_le _ _) hcap)
    clear hM
    go_wp2_with fail
    refine HD.out.mono ?_
    rintro e w2 ⟨rfl, hm⟩
    have HM2 := hid hm
    clear hm
    go_wp2_with fail
    go_ret
    exact ⟨_, rfl, HM2.out.bl, _, cap, rfl, HRL.out, Or.inr ⟨g, rfl, HM2.out⟩⟩
theorem Jn.nil : Jn [] [] := ⟨List.Pairwise.nil, fun _ h => absurd h (by simp), fun _ h => absurd h (by simp)⟩
theorem Jn.perm {D D' E : List Bm} (h : Jn D' E) (hp : D'.Perm D) : Jn D E :=
  ⟨h.ri, fun e he => ⟨hp.mem_iff.1 (h.sub e he).1, (h.sub e he).2⟩, fun x hx => h.top x (hp.mem_iff.2 hx)⟩
theorem Jn.right {D E : List Bm} (h : Jn (rightL D) E) : Jn D E :=
  ⟨h.ri, fun e he => ⟨(rightL_mem.1 (h.sub e he).1).1, (h.sub e he).2⟩, fun x hx hr => h.top x (rightL_mem.2 ⟨hx, hr⟩) hr⟩
set_option maxHeartbeats 2000000 in
/-- mvs.greatest of a row of its own. -/
theorem great_any (D : List Bm) (v : Value) (A : Nat → Addr) (ml : Int) (w0 w : World) (hM : Mr w0 w v D) (h12 : D.length ≤ 1000000) (hr : ∀ r, r ∈ D → Rt r) (S : Te w0 A ml) :
    Calls Tryz.prog 124 #[v] w fun e w' => ∃ u E, e = .returned u ∧ E.length ≤ D.length ∧ Jn D E ∧ Mr w0 w' u E := by
  obtain ⟨hb, a, cap, rfl, hcap, hk⟩ := hM
  by_cases hD : D = []
  · subst hD
    have HS := hid (sortM_nil a cap w)
    have HC := hid (fun W => compactM_nil a cap W)
    have h0 : a = none → cap = 0 := by
      rcases hk with ⟨_, h0⟩ | ⟨g, rfl, _⟩
      · exact h0
      · intro h; cases h
    have HBL := hid hb
    clear hk hb S
    go_enter Tryz.func124, Tryz.ntmps124
    go_wp2_with fail
    refine HS.out.mono ?_
    rintro e w1 ⟨rfl, hb⟩
    have HB1 := hid (HBL.out.trans (hb.mono HBL.out.size))
    clear hb
    go_wp2_with fail
    refine (HC.out _).mono ?_
    rintro e w2 ⟨rfl, hb⟩
    have HB2 := hid (HB1.out.trans (hb.mono HB1.out.size))
    clear hb
    go_wp2_with fail
    go_ret
    exact ⟨_, [], rfl, Nat.le_refl _, Jn.nil, HB2.out, a, cap, rfl, Nat.zero_le _, Or.inl ⟨rfl, h0⟩⟩
  · obtain ⟨g, rfl, hM⟩ : ∃ g, a = some ⟨g, 0, none⟩ ∧ Mw w0 w g D := by
      rcases hk with ⟨h, _⟩ | h
      · exact absurd h hD
      · exact h
    have HS := hid (sort_mw w0 w g cap D hD h12 A ml S hr hM)
    have HRT := hid hr
    have HD := hid hD
    clear hk hb S hM hr hD
    go_enter Tryz.func124, Tryz.ntmps124
    go_wp2_with fail
    refine HS.out.mono ?_
    rintro e w1 ⟨rfl, D1, hp, hs, hM1⟩
    have hl : D1.length = D.length := hp.length_eq
    have HC := hid (compact_mw w0 w1 g cap D1 (fun e => HD.out (by rw [e] at hl; exact List.length_eq_zero_iff.1 hl.symm)) (by omega) (by omega) (fun r h => HRT.out r (hp.mem_iff.1 h)) hs hM1)
    have HP := hid hp
    rw [hl] at HC
    clear hp hs hM1 HS
    go_wp2_with fail
    refine HC.out.mono ?_
    rintro e w2 ⟨E, rfl, hEl, hj, hM2⟩
    have HJ := hid (hj.perm HP.out)
    have HM2 := hid hM2
    clear hj hM2
    go_wp2_with fail
    go_ret
    exact ⟨_, E, rfl, hEl, HJ.out, HM2.out.bl, _, cap, rfl, by omega, Or.inr ⟨g, rfl, HM2.out⟩⟩
set_option maxHeartbeats 2000000 in
/-- mvs.Join. -/
theorem join_mods (X Y : List Bm) (va vb : Value) (A : Nat → Addr) (ml : Int) (w : World) (hA : MsAt w va X) (hB : MsAt w vb Y) (eA : Em va X) (eB : Em vb Y) (lA : X.length ≤ 500) (lB : Y.length ≤ 500)
    (hz : ∀ r, r ∈ X ++ Y → r.1.size < 999999 ∧ r.2.size < 999999) (S : Te w A ml) :
    Calls Tryz.prog 74 #[va, vb] w fun e w' => ∃ v E, e = .returned v ∧ E.length ≤ (X ++ Y).length ∧ Jn (X ++ Y) E ∧ Mr w w' v E := by
  obtain ⟨aa, an, ac, ea⟩ := hA.slice
  obtain ⟨ba, bn, bc, eb⟩ := hB.slice
  subst ea eb
  have HB0 := hid ((Below.refl w.heap.size w).alloc (Nat.le_refl _) (.cells #[.slice aa an ac, .slice ba bn bc] 52))
  have HR := hid (right_any X Y _ _ w.heap.size A ml (w.alloc (.cells #[.slice aa an ac, .slice ba bn bc] 52)) (by simp) (by simp) (hA.below HB0.out) (hB.below HB0.out) eA eB lA lB hz (S.below HB0.out))
  have HS := hid S
  have HRT := hid (show ∀ r, r ∈ rightL (X ++ Y) → Rt r from fun r h => ⟨(rightL_mem.1 h).2, (hz r (rightL_mem.1 h).1).1, (hz r (rightL_mem.1 h).1).2⟩)
  have hl : (X ++ Y).length ≤ 1000 := by simp; omega
  have HRL := hid (show (rightL (X ++ Y)).length ≤ (X ++ Y).length from List.length_filter_le _ _)
  generalize X ++ Y = D at *
  clear hA hB eA eB S hz
  go_enter Tryz.func74, Tryz.ntmps74
  go_wp2_with fail
  refine HR.out.mono ?_
  rintro e w1 ⟨v, rfl, hm⟩
  have HG := hid (great_any (rightL D) v A ml _ w1 hm (by have := HRL.out; omega) HRT.out (HS.out.below HB0.out))
  obtain ⟨va, vc, hv⟩ := hm.sl
  subst hv
  clear hm HR
  go_wp2_with fail
  refine HG.out.mono ?_
  rintro e w2 ⟨u, E, rfl, hl2, hj, hM⟩
  have HJ := hid hj.right
  have HM := hid (hM.base HB0.out)
  have HEL := hid (Nat.le_trans hl2 HRL.out)
  obtain ⟨ua, uc, hu⟩ := hM.sl
  subst hu
  clear hj hM hl2
  go_wp2_with fail
  go_ret
  exact ⟨_, E, rfl, HEL.out, HJ.out, HM.out⟩
end Ve
end Go.Proofs.YtanponneancajaaGreatDoor
