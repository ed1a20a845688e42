
import Derived.Test.YtanponneancajaaGreatDoorBt8
import Derived.Lib.AppendZeros
import Derived.Test.YtanponneancajaaGreatDoorBt6
import Derived.Test.YtanponneancajaaGreatDoorBt5
namespace Go.Proofs.YtanponneancajaaGreatDoor
open Go.RowKit
namespace Ve
theorem zero_len (n : Nat) : (Builtin.zeroCells (Value.agg #[.string ⟨#[]⟩, .string ⟨#[]⟩]).cells n).size = n * 2 := by
  simp [Builtin.zeroCells, Value.cells]
set_option maxHeartbeats 2000000 in
theorem grow_zero (w : World) : Calls Tryz.prog 126 #[.slice none 0 0, .int .i64 0] w fun e w' => e = .returned (.slice none 0 0) ∧ Below w.heap.size w w' := by
  go_enter Tryz.func126, Tryz.ntmps126
  go_wp2_with fail
  go_ret
  exact ⟨rfl, Below.refl _ _⟩
set_option maxRecDepth 100000 in
set_option maxHeartbeats 4000000 in
theorem grow_some (n : Nat) (w : World) (h0 : 0 < n) (hn : n ≤ 1000000) : Calls Tryz.prog 126 #[.slice none 0 0, .int .i64 (n : Int)] w fun e w' => ∃ v, e = .returned v ∧ w'.ownsRow w.heap.size 51 2 v 0 [] ∧ Below w.heap.size w w' := by
  obtain ⟨i0, hi, hz0, hz1, hz2⟩ := info_parts infoMod
  have HA := hid (fun (W : World) ty => Lib.run_append_nil_zeros (P := Tryz.prog) W 52 3 ty 51 i0 (.agg #[.string ⟨#[]⟩, .string ⟨#[]⟩]) .i64 .i64 Tryz.underlying52 Tryz.underlying3 hi hz0 n h0 (by rw [hz1]; omega) (by omega) (by rw [hz2]; omega))
  have hn0 : ¬ (n : Int) < 0 := by omega
  have hn1 : (0 : Int) < (n : Int) := by omega
  go_enter Tryz.func126, Tryz.ntmps126
  go_wp2_with (at_builtin; refine Lib.wpList_append_run _ rfl _ _ _ _ rfl _ _ rfl rfl _ _ (HA.out _ _) ?_)
  go_ret
  refine ⟨_, rfl, ⟨by simp, Or.inr ⟨w.heap.size, grownCap w n 0 51, _, rfl, Nat.le_refl _, heap_new w _, Nat.zero_le _, grownCap_le_maxLen w n 0 51 (by unfold maxLen; omega), ?_, by simp⟩⟩, below_drawn_of ((Below.refl w.heap.size w).alloc (Nat.le_refl _) _) 1⟩
  have h1 := zero_len n
  have h2 := zero_len (grownCap w n 0 51 - n)
  have h3 := grownCap_ge w n 0 51
  simp only [Value.cells] at h1 h2
  rw [Array.size_append, h1, h2]
  omega
set_option maxRecDepth 100000 in
set_option maxHeartbeats 8000000 in
theorem cat_any (A B : List Bm) (va vb : Value) (lb : Nat) (w : World) (c0 : w.cell? ⟨lb, 0, none⟩ = some va) (c1 : w.cell? ⟨lb, 1, none⟩ = some vb) (hA : MsAt w va A) (hB : MsAt w vb B) (eA : Em va A) (eB : Em vb B) (lA : A.length ≤ 500) (lB : B.length ≤ 500) :
    Calls Tryz.prog 75 #[.slice (some ⟨lb, 0, none⟩) 2 2] w fun e w' => ∃ v, e = .returned v ∧ w'.ownsRow w.heap.size 51 2 v (A ++ B).length (flatM (A ++ B)) ∧ Below w.heap.size w w' := by
  obtain ⟨aa, ac, ea⟩ : ∃ a c, va = .slice a A.length c := by obtain ⟨a, c, e, _⟩ := hA; exact ⟨a, c, e⟩
  obtain ⟨ba, bc, eb⟩ : ∃ a c, vb = .slice a B.length c := by obtain ⟨a, c, e, _⟩ := hB; exact ⟨a, c, e⟩
  subst ea eb
  have HA := hid hA
  have HB := hid hB
  have HEA := hid eA
  have HEB := hid eB
  clear hA hB eA eB
  go_enter Tryz.func75, Tryz.ntmps75
  go_wp2_with fail
  go_loopw [3, 11] (fun s i wr => Hid (wr = w) ∧ ((s = .int .i64 0 ∧ i = .int .i64 0) ∨ (s = .int .i64 (A.length : Int) ∧ i = .int .i64 1) ∨ (s = .int .i64 ((A.length + B.length : Nat) : Int) ∧ i = .int .i64 2))) (fun _ i _ => 2 - (intOf i).toNat)
  case atStart => exact ⟨hid rfl, Or.inl ⟨rfl, rfl⟩⟩
  case round =>
    obtain ⟨HWR, ⟨rfl, rfl⟩ | ⟨rfl, rfl⟩ | ⟨rfl, rfl⟩⟩ := hrel
    all_goals obtain rfl := HWR.out
    all_goals clear HWR
    · have q1 : ¬ (A.length : Int) < 0 := by omega
      go_wp2_with fail
      go_roundw
      case rel => exact ⟨hid trivial, Or.inr (Or.inl ⟨rfl, rfl⟩)⟩
      case measure => decide
    · have q1 : ¬ (A.length : Int) + (B.length : Int) < 0 := by omega
      go_wp2_with fail
      go_roundw
      case rel => exact ⟨hid trivial, Or.inr (Or.inr ⟨by go_num, rfl⟩)⟩
      case measure => decide
    · have HG := hid (show Calls Tryz.prog 126 #[.slice none 0 0, .int .i64 ((A.length + B.length : Nat) : Int)] wr fun e w' => ∃ v, e = .returned v ∧ w'.ownsRow wr.heap.size 51 2 v 0 [] ∧ Below wr.heap.size wr w' by
        by_cases h0 : A.length + B.length = 0
        · rw [h0]
          exact (grow_zero wr).mono fun _ _ h => ⟨_, h.1, World.ownsRow_nil _ _ _ _, h.2⟩
        · exact grow_some (A.length + B.length) wr (by omega) (by omega))
      go_wp2_with fail
      refine HG.out.mono ?_
      rintro e w1 ⟨v0, rfl, hown, hb⟩
      have HO := hid hown
      have HBL := hid hb
      obtain ⟨oa, on, oc, hv0⟩ := own_sl hown
      subst hv0
      clear hown hb HG
      go_wp2_with fail
      go_loopw [6, 27] (fun v i W => ∃ (k : Nat) (X : List Bm), i = .int .i64 (k : Int) ∧ ((k = 0 ∧ X = []) ∨ (k = 1 ∧ X = A) ∨ (k = 2 ∧ X = A ++ B)) ∧ Hid (W.ownsRow wr.heap.size 51 2 v X.length (flatM X)) ∧ Hid (Below wr.heap.size wr W)) (fun _ i _ => 2 - (intOf i).toNat)
      case atStart => exact ⟨0, [], rfl, Or.inl ⟨rfl, rfl⟩, HO, HBL⟩
      case round =>
        obtain ⟨k, X, rfl, hk, HOW, HBW⟩ := hrel
        have HSZ := hid HBW.out.size
        rcases hk with ⟨rfl, rfl⟩ | ⟨rfl, rfl⟩ | ⟨rfl, rfl⟩
        · have d0 := cell_below HBW.out c0
          obtain ⟨v2, W2, hrun, ho2, hg2⟩ := both_run [] A _ _ wr _ HSZ.out (by simp) (by omega) HOW.out (HA.out.below HBW.out) HEA.out
          have HRUN := hid hrun
          have HO2 := hid (show W2.ownsRow _ 51 2 v2 A.length (flatM A) from ho2)
          have HB2 := hid (HBW.out.grown hg2 HBW.out.size (fun k hk => (HOW.out.lt k hk).1))
          clear hrun ho2 hg2
          go_wp2_with (at_builtin; refine Lib.wpList_append_run _ rfl _ _ _ _ rfl _ _ rfl rfl _ _ HRUN.out ?_)
          go_roundw
          case rel => exact ⟨1, A, rfl, Or.inr (Or.inl ⟨rfl, rfl⟩), HO2, HB2⟩
          case measure => decide
        · have d1 := cell_below HBW.out c1
          obtain ⟨v2, W2, hrun, ho2, hg2⟩ := both_run X B _ _ wr _ HSZ.out (by omega) (by omega) HOW.out (HB.out.below HBW.out) HEB.out
          have HRUN := hid hrun
          have HO2 := hid ho2
          have HB2 := hid (HBW.out.grown hg2 HBW.out.size (fun k hk => (HOW.out.lt k hk).1))
          clear hrun ho2 hg2
          go_wp2_with (at_builtin; refine Lib.wpList_append_run _ rfl _ _ _ _ rfl _ _ rfl rfl _ _ HRUN.out ?_)
          go_roundw
          case rel => exact ⟨2, X ++ B, rfl, Or.inr (Or.inr ⟨rfl, rfl⟩), HO2, HB2⟩
          case measure => decide
        · go_wp2_with fail
          go_ret
          exact ⟨_, rfl, HOW.out, HBW.out⟩
end Ve
end Go.Proofs.YtanponneancajaaGreatDoor


namespace Go.Proofs.YtanponneancajaaGreatDoor
open Go.RowKit
namespace Ve
theorem insM_nil (a : Option Addr) (c : Nat) (W : World) : Calls Tryz.prog 249 #[.slice a 0 c, .int .i64 0, .int .i64 0, .func (.func 170) #[] #[]] W fun e w' => e = .returned (.tuple #[]) ∧ w' = W := by
  go_enter Tryz.func249, Tryz.ntmps249
  go_wp2_with fail
  go_loop [8] (fun i => i = .int .i64 1) (fun _ => 0)
  case atStart => rfl
  case round =>
    obtain rfl := hrel
    go_wp2_with fail
    go_end0
    exact ⟨rfl, rfl⟩
set_option maxRecDepth 100000 in
set_option maxHeartbeats 2000000 in
theorem pdqM_nil (a : Option Addr) (c : Nat) (n : Int) (W : World) : Calls Tryz.prog 215 #[.slice a 0 c, .int .i64 0, .int .i64 0, .int .i64 n, .func (.func 170) #[] #[]] W fun e w' => e = .returned (.tuple #[]) ∧ w' = W := by
  have HI := hid (insM_nil a c W)
  go_enter Tryz.func215, Tryz.ntmps215
  go_wp2_with fail
  go_loop [1, 2, 3, 10, 11] (fun a b _ _ _ => a = .int .i64 0 ∧ b = .int .i64 0) (fun _ _ _ _ _ => 0)
  case atStart => exact ⟨rfl, rfl⟩
  case round =>
    obtain ⟨rfl, rfl⟩ := hrel
    go_wp2_with fail
    refine HI.out.mono ?_
    rintro e w' ⟨rfl, rfl⟩
    go_wp2_with fail
    first | (go_end0; exact ⟨rfl, rfl⟩) | (go_ret; exact ⟨rfl, rfl⟩) | (refine bodyPost_ret (v := .tuple #[]) (by simp [results, Tryz.results215]) rfl ⟨rfl, rfl⟩)
set_option maxHeartbeats 1000000 in
theorem sortM_nil (a : Option Addr) (c : Nat) (W : World) : Calls Tryz.prog 169 #[.slice a 0 c, .func (.func 170) #[] #[]] W fun e w' => e = .returned (.tuple #[]) ∧ Below W.heap.size W w' := by
  have HLN := hid (show Calls Tryz.prog 212 #[.int .u64 0] W fun e w' => e = .returned (.int .i64 (Lib.bitLen 0 : Nat)) ∧ w' = W from by
    have h := Any.bits_Len (SlLaysF0.n15.bits (P := Tryz.prog) (ρ := Tryz.sortMods_ren) { Tryz.sortMods with }) 0 W (by omega) (by omega)
    exact h)
  have HP := hid (fun n => pdqM_nil a c n W)
  go_enter Tryz.func169, Tryz.ntmps169
  go_wp2_with fail
  refine HLN.out.mono ?_
  rintro e w' ⟨rfl, rfl⟩
  go_wp2_with fail
  refine (HP.out _).mono ?_
  rintro e w' ⟨rfl, rfl⟩
  go_wp2_with fail
  go_end0
  exact ⟨rfl, Below.refl _ _⟩
set_option maxHeartbeats 1000000 in
theorem delM_nil (a : Option Addr) (c : Nat) (W : World) : Calls Tryz.prog 173 #[.slice a 0 c, .func (.func 174) #[] #[]] W fun e w' => e = .returned (.slice a 0 c) ∧ Below W.heap.size W w' := by
  have HI := hid (idxM_none 174 #[] a c W)
  go_enter Tryz.func173, Tryz.ntmps173
  go_wp2_with fail
  refine HI.out.mono ?_
  rintro e w1 ⟨rfl, hb⟩
  have HB := hid hb
  clear hb
  go_wp2_with fail
  go_ret
  exact ⟨rfl, HB.out⟩
def Mr (w0 W : World) (v : Value) (D : List Bm) : Prop := Below w0.heap.size w0 W ∧ ∃ a cap, v = .slice a D.length cap ∧ D.length ≤ cap ∧ ((D = [] ∧ (a = none → cap = 0)) ∨ ∃ g, a = some ⟨g, 0, none⟩ ∧ Mw w0 W g D)
theorem Mr.ms {w0 W : World} {v : Value} {D : List Bm} (h : Mr w0 W v D) : MsAt W v D := by
  obtain ⟨_, a, cap, rfl, hc, ⟨rfl, _⟩ | ⟨g, rfl, h⟩⟩ := h
  · exact ⟨a, cap, rfl, hc, fun h => absurd rfl h⟩
  · exact h.ms hc
theorem Mr.em {w0 W : World} {v : Value} {D : List Bm} (h : Mr w0 W v D) : Em v D := by
  obtain ⟨_, a, cap, rfl, hc, h⟩ := h
  intro a' c' e hD
  injection e with e1 e2 e3
  subst e1 e3
  cases a with
  | some a' => exact Or.inr ⟨a', rfl⟩
  | none =>
    rcases h with ⟨_, h0⟩ | ⟨g, h, _⟩
    · rw [h0 rfl]; exact Or.inl rfl
    · cases h
theorem mr_own {w0 W : World} {v : Value} {L : List Bm} (h : W.ownsRow w0.heap.size 51 2 v L.length (flatM L)) (hb : Below w0.heap.size w0 W) : Mr w0 W v L := by
  by_cases hL : L = []
  · subst hL
    obtain ⟨_, ⟨rfl, _⟩ | ⟨g, cap, cur, rfl, _, _, _, _⟩⟩ := h
    · exact ⟨hb, none, 0, rfl, Nat.le_refl _, Or.inl ⟨rfl, fun _ => rfl⟩⟩
    · exact ⟨hb, _, cap, rfl, Nat.zero_le _, Or.inl ⟨rfl, fun h => by cases h⟩⟩
  · obtain ⟨g, cap, rfl, h1, _, h3⟩ := own_mw h hb hL
    exact ⟨hb, _, cap, rfl, h1, Or.inr ⟨g, rfl, h3⟩⟩
theorem Mr.base {w w0 W : World} {v : Value} {D : List Bm} (h : Mr w0 W v D) (hb : Below w.heap.size w w0) : Mr w W v D := by
  obtain ⟨h1, a, cap, rfl, hc, hk⟩ := h
  refine ⟨hb.trans (h1.mono hb.size), a, cap, rfl, hc, ?_⟩
  rcases hk with hk | ⟨g, rfl, hM⟩
  · exact Or.inl hk
  · exact Or.inr ⟨g, rfl, hb.trans (h1.mono hb.size), Nat.le_trans hb.size hM.lo, hM.hi, hM.fz, hM.c0, hM.c1⟩
theorem Mr.sl {w0 W : World} {v : Value} {D : List Bm} (h : Mr w0 W v D) : ∃ a c, v = .slice a D.length c := by
  obtain ⟨_, a, cap, rfl, _⟩ := h
  exact ⟨a, cap, rfl⟩
set_option maxHeartbeats 2000000 in
theorem right_any (X Y : List Bm) (va vb : Value) (lb : Nat) (A : Nat → Addr) (ml : Int) (w : World) (c0 : w.cell? ⟨lb, 0, none⟩ = some va) (c1 : w.cell? ⟨lb, 1, none⟩ = some vb) (hA : MsAt w va X) (hB : MsAt w vb Y) (eA : Em va X) (eB : Em vb Y) (lA : X.length ≤ 500) (lB : Y.length ≤ 500)
    (hz : ∀ r, r ∈ X ++ Y → r.1.size < 999999 ∧ r.2.size < 999999) (S : Te w A ml) :
    Calls Tryz.prog 125 #[.slice (some ⟨lb, 0, none⟩) 2 2] w fun e w' => ∃ v, e = .returned v ∧ Mr w w' v (rightL (X ++ Y)) := by
  have HC := hid (cat_any X Y va vb lb w c0 c1 hA hB eA eB lA lB)
  have HS := hid S
  have HZ := hid hz
  have hl : (X ++ Y).length ≤ 1000 := by simp; omega
  generalize X ++ Y = D at *
  clear hA hB eA eB S hz c0 c1
  go_enter Tryz.func125, Tryz.ntmps125
  go_wp2_with fail
  refine HC.out.mono ?_
  rintro e w1 ⟨v, rfl, hown, hb⟩
  obtain ⟨_, a, cap, rfl, hcap, hk⟩ := mr_own hown hb
  have HBL := hid hb
  clear hown hb
  rcases hk with ⟨rfl, h0⟩ | ⟨g, rfl, hM⟩
  · have HD := hid (delM_nil a cap w1)
    go_wp2_with fail
    refine HD.out.mono ?_
    rintro e w2 ⟨rfl, hb⟩
    have HB2 := hid (HBL.out.trans (hb.mono HBL.out.size))
    clear hb
    go_wp2_with fail
    go_ret
    exact ⟨_, rfl, HB2.out, a, cap, rfl, Nat.zero_le _, Or.inl ⟨rfl, h0⟩⟩
  · have HD := hid (del_mw w w1 g cap D A ml HS.out (by omega) hcap HZ.out hM)
    have HRL := hid (show (rightL D).length ≤ cap from Nat.le_trans (List.length_filter_le _ _) hcap)
    clear hM
    go_wp2_with fail
    refine HD.out.mono ?_
    rintro e w2 ⟨rfl, hm⟩
    have HM2 := hid hm
    clear hm
    go_wp2_with fail
    go_ret
    exact ⟨_, rfl, HM2.out.bl, _, cap, rfl, HRL.out, Or.inr ⟨g, rfl, HM2.out⟩⟩
theorem Jn.nil : Jn [] [] := ⟨List.Pairwise.nil, fun _ h => absurd h (by simp), fun _ h => absurd h (by simp)⟩
theorem Jn.perm {D D' E : List Bm} (h : Jn D' E) (hp : D'.Perm D) : Jn D E :=
  ⟨h.ri, fun e he => ⟨hp.mem_iff.1 (h.sub e he).1, (h.sub e he).2⟩, fun x hx => h.top x (hp.mem_iff.2 hx)⟩
theorem Jn.right {D E : List Bm} (h : Jn (rightL D) E) : Jn D E :=
  ⟨h.ri, fun e he => ⟨(rightL_mem.1 (h.sub e he).1).1, (h.sub e he).2⟩, fun x hx hr => h.top x (rightL_mem.2 ⟨hx, hr⟩) hr⟩
set_option maxHeartbeats 2000000 in
theorem great_any (D : List Bm) (v : Value) (A : Nat → Addr) (ml : Int) (w0 w : World) (hM : Mr w0 w v D) (h12 : D.length ≤ 1000000) (hr : ∀ r, r ∈ D → Rt r) (S : Te w0 A ml) :
    Calls Tryz.prog 124 #[v] w fun e w' => ∃ u E, e = .returned u ∧ E.length ≤ D.length ∧ Jn D E ∧ Mr w0 w' u E := by
  obtain ⟨hb, a, cap, rfl, hcap, hk⟩ := hM
  by_cases hD : D = []
  · subst hD
    have HS := hid (sortM_nil a cap w)
    have HC := hid (fun W => compactM_nil a cap W)
    have h0 : a = none → cap = 0 := by
      rcases hk with ⟨_, h0⟩ | ⟨g, rfl, _⟩
      · exact h0
      · intro h; cases h
    have HBL := hid hb
    clear hk hb S
    go_enter Tryz.func124, Tryz.ntmps124
    go_wp2_with fail
    refine HS.out.mono ?_
    rintro e w1 ⟨rfl, hb⟩
    have HB1 := hid (HBL.out.trans (hb.mono HBL.out.size))
    clear hb
    go_wp2_with fail
    refine (HC.out _).mono ?_
    rintro e w2 ⟨rfl, hb⟩
    have HB2 := hid (HB1.out.trans (hb.mono HB1.out.size))
    clear hb
    go_wp2_with fail
    go_ret
    exact ⟨_, [], rfl, Nat.le_refl _, Jn.nil, HB2.out, a, cap, rfl, Nat.zero_le _, Or.inl ⟨rfl, h0⟩⟩
  · obtain ⟨g, rfl, hM⟩ : ∃ g, a = some ⟨g, 0, none⟩ ∧ Mw w0 w g D := by
      rcases hk with ⟨h, _⟩ | h
      · exact absurd h hD
      · exact h
    have HS := hid (sort_mw w0 w g cap D hD h12 A ml S hr hM)
    have HRT := hid hr
    have HD := hid hD
    clear hk hb S hM hr hD
    go_enter Tryz.func124, Tryz.ntmps124
    go_wp2_with fail
    refine HS.out.mono ?_
    rintro e w1 ⟨rfl, D1, hp, hs, hM1⟩
    have hl : D1.length = D.length := hp.length_eq
    have HC := hid (compact_mw w0 w1 g cap D1 (fun e => HD.out (by rw [e] at hl; exact List.length_eq_zero_iff.1 hl.symm)) (by omega) (by omega) (fun r h => HRT.out r (hp.mem_iff.1 h)) hs hM1)
    have HP := hid hp
    rw [hl] at HC
    clear hp hs hM1 HS
    go_wp2_with fail
    refine HC.out.mono ?_
    rintro e w2 ⟨E, rfl, hEl, hj, hM2⟩
    have HJ := hid (hj.perm HP.out)
    have HM2 := hid hM2
    clear hj hM2
    go_wp2_with fail
    go_ret
    exact ⟨_, E, rfl, hEl, HJ.out, HM2.out.bl, _, cap, rfl, by omega, Or.inr ⟨g, rfl, HM2.out⟩⟩
set_option maxHeartbeats 2000000 in
theorem join_mods (X Y : List Bm) (va vb : Value) (A : Nat → Addr) (ml : Int) (w : World) (hA : MsAt w va X) (hB : MsAt w vb Y) (eA : Em va X) (eB : Em vb Y) (lA : X.length ≤ 500) (lB : Y.length ≤ 500)
    (hz : ∀ r, r ∈ X ++ Y → r.1.size < 999999 ∧ r.2.size < 999999) (S : Te w A ml) :
    Calls Tryz.prog 74 #[va, vb] w fun e w' => ∃ v E, e = .returned v ∧ E.length ≤ (X ++ Y).length ∧ Jn (X ++ Y) E ∧ Mr w w' v E := by
  obtain ⟨aa, an, ac, ea⟩ := hA.slice
  obtain ⟨ba, bn, bc, eb⟩ := hB.slice
  subst ea eb
  have HB0 := hid ((Below.refl w.heap.size w).alloc (Nat.le_refl _) (.cells #[.slice aa an ac, .slice ba bn bc] 52))
  have HR := hid (right_any X Y _ _ w.heap.size A ml (w.alloc (.cells #[.slice aa an ac, .slice ba bn bc] 52)) (by simp) (by simp) (hA.below HB0.out) (hB.below HB0.out) eA eB lA lB hz (S.below HB0.out))
  have HS := hid S
  have HRT := hid (show ∀ r, r ∈ rightL (X ++ Y) → Rt r from fun r h => ⟨(rightL_mem.1 h).2, (hz r (rightL_mem.1 h).1).1, (hz r (rightL_mem.1 h).1).2⟩)
  have hl : (X ++ Y).length ≤ 1000 := by simp; omega
  have HRL := hid (show (rightL (X ++ Y)).length ≤ (X ++ Y).length from List.length_filter_le _ _)
  generalize X ++ Y = D at *
  clear hA hB eA eB S hz
  go_enter Tryz.func74, Tryz.ntmps74
  go_wp2_with fail
  refine HR.out.mono ?_
  rintro e w1 ⟨v, rfl, hm⟩
  have HG := hid (great_any (rightL D) v A ml _ w1 hm (by have := HRL.out; omega) HRT.out (HS.out.below HB0.out))
  obtain ⟨va, vc, hv⟩ := hm.sl
  subst hv
  clear hm HR
  go_wp2_with fail
  refine HG.out.mono ?_
  rintro e w2 ⟨u, E, rfl, hl2, hj, hM⟩
  have HJ := hid hj.right
  have HM := hid (hM.base HB0.out)
  have HEL := hid (Nat.le_trans hl2 HRL.out)
  obtain ⟨ua, uc, hu⟩ := hM.sl
  subst hu
  clear hj hM hl2
  go_wp2_with fail
  go_ret
  exact ⟨_, E, rfl, HEL.out, HJ.out, HM.out⟩
end Ve
end Go.Proofs.YtanponneancajaaGreatDoor


namespace Go.Proofs.YtanponneancajaaGreatDoor
open Go.RowKit Go.Maps
namespace Ve
theorem goM_sub {w : World} {v : Value} {Q : List Raw} {L : List Ent} (I : Ixs w v Q L) {T : By} {m : Bm} (h : m ∈ goM T Q) : m ∈ univ L := by
  rw [← univ_eq I]
  unfold goM goQ at h
  obtain ⟨r, hr, e⟩ := List.mem_map.1 h
  exact List.mem_map.2 ⟨r, (List.mem_filter.1 hr).1, e⟩
theorem univ_szJ {L : List Ent} (sh : ∀ e, e ∈ L → ShE e) {m : Bm} (h : m ∈ univ L) : m.1.size < 999999 ∧ m.2.size < 999999 := by
  obtain ⟨e, he, rfl⟩ := List.mem_map.1 h
  exact ⟨(sh e he).p, (sh e he).v⟩
theorem goM_lenJ {w : World} {v : Value} {Q : List Raw} {L : List Ent} (I : Ixs w v Q L) (T : By) : (goM T Q).length ≤ L.length := by
  unfold goM goQ
  rw [List.length_map, ← I.ln]
  exact List.length_filter_le _ _
theorem em_none : Em (.slice none 0 0) [] := fun a c e _ => by
  injection e with e1 e2 e3
  subst e1 e3
  exact Or.inl rfl
theorem ms_none (w : World) : MsAt w (.slice none 0 0) [] := ⟨none, 0, rfl, Nat.le_refl _, fun h => absurd rfl h⟩
set_option maxRecDepth 100000 in
set_option maxHeartbeats 2000000 in
theorem build_bad (Q : List Raw) (L : List Ent) (roots : List Bm) (v rv : Value) (A : Nat → Addr) (m : Int) (w : World) (hn : L.length ≤ 1000) (hrn : roots.length ≤ 1000000) (sh : ∀ e, e ∈ L → ShE e) (S : Te w A m) (I : Ixs w v Q L) (hr : MsAt w rv roots) (h0 : (chkG Q L roots).1 ≠ 0) :
    Calls Tryz.prog 30 #[v, rv] w fun e w' => ∃ T a, e = .returned (.tuple #[.slice none 0 0, .iface T (.pointer (some a))]) ∧ ErrAt w' A (.iface T (.pointer (some a))) (chkG Q L roots).1 (chkG Q L roots).2 ∧ Below w.heap.size w w' := by
  have HCK := hid (reach_bad Q L roots v rv A m w hn hrn sh S I hr h0)
  obtain ⟨a, c, hv, -⟩ := id I.es
  subst hv
  obtain ⟨ra, rc, hrv, -⟩ := id hr
  subst hrv
  clear S I hr sh h0
  go_enter Tryz.func30, Tryz.ntmps30
  go_wp2_with fail
  refine HCK.out.mono ?_
  rintro e w1 ⟨T, xa, rfl, he, hb⟩
  have HB := hid hb
  have HE := hid he
  clear hb he HCK
  go_wp2_with fail
  go_ret2
  exact ⟨_, _, rfl, HE.out, HB.out⟩
structure Bt (Q : List Raw) (L : List Ent) (roots E : List Bm) : Prop where
  c : ∃ T, Came (reqQ Q L) (univ L) roots T ∧ Jn (goM T Q) E ∧ E.length ≤ (goM T Q).length
set_option maxRecDepth 100000 in
set_option maxHeartbeats 2000000 in
theorem build_good (Q : List Raw) (L : List Ent) (roots : List Bm) (v rv : Value) (A : Nat → Addr) (m : Int) (w : World) (hn : L.length ≤ 1000) (hrn : roots.length ≤ 1000000) (sh : ∀ e, e ∈ L → ShE e) (S : Te w A m) (I : Ixs w v Q L) (hr : MsAt w rv roots) (h0 : (chkG Q L roots).1 = 0) :
    Calls Tryz.prog 30 #[v, rv] w fun e w' => ∃ u E, e = .returned (.tuple #[u, .nilIface]) ∧ Bt Q L roots E ∧ Mr w w' u E := by
  have HRE := hid (reach_good Q L roots v rv A m w hn hrn sh S I hr h0)
  have hl : L.length ≤ 100 := by
    by_cases hc : (chk Q L).1 = 0
    · exact (chk_each0 hc).1
    · rw [chkG_bad hc] at h0; exact absurd h0 hc
  have HS := hid S
  have HI := hid I
  have HSH := hid sh
  obtain ⟨a, c, hv, -⟩ := id I.es
  subst hv
  obtain ⟨ra, rc, hrv, -⟩ := id hr
  subst hrv
  clear S I hr sh h0
  go_enter Tryz.func30, Tryz.ntmps30
  go_wp2_with fail
  refine HRE.out.mono ?_
  rintro e w1 ⟨u, rfl, T, hcm, hown, hb⟩
  have HCM := hid hcm
  have HB := hid hb
  have hgl := goM_lenJ HI.out T
  have HM := hid (mr_own hown hb)
  have HJ := hid (join_mods (goM T Q) [] u (.slice none 0 0) A m w1 HM.out.ms (ms_none w1) HM.out.em em_none (by omega) (by simp) (fun r hr => univ_szJ HSH.out (goM_sub HI.out (by simpa using hr))) (HS.out.below hb))
  rw [List.append_nil] at HJ
  obtain ⟨ua, uc, hu⟩ := HM.out.sl
  subst hu
  clear hcm hown hb HRE HM
  go_wp2_with fail
  refine HJ.out.mono ?_
  rintro e w2 ⟨x, E, rfl, hel, hj, hm⟩
  have HMX := hid (hm.base HB.out)
  have HBT := hid (show Bt Q L roots E from ⟨T, HCM.out, hj, hel⟩)
  obtain ⟨xa, xc, hx⟩ := hm.sl
  subst hx
  clear hel hj hm HJ
  go_wp2_with fail
  go_ret2
  exact ⟨_, E, rfl, HBT.out, HMX.out⟩
theorem sm_chkG2 (g : Nat) : (chkG (smQ g) smL [ma0, ma1]).1 = 0 := by
  rw [chkG_ok (by rw [sm_chk])]
  show codeE (nonE (smQ g) [ma0, ma1]) 2 = 0
  kernel_rfl
theorem sm_jn : Jn [ma0, ma1, mb0] [ma1, mb0] := by
  have e0 : decide (ordV (vb ma0) (vb ma1) ≤ 0) = true := by kernel_rfl
  have e1 : decide (ordV (vb ma1) (vb ma1) ≤ 0) = true := by kernel_rfl
  have e2 : decide (ordV (vb mb0) (vb mb0) ≤ 0) = true := by kernel_rfl
  have m1 : mErr ma1 = 0 := by kernel_rfl
  have m2 : mErr mb0 = 0 := by kernel_rfl
  have l1 : lt ma1.1 mb0.1 = true := by kernel_rfl
  refine ⟨?_, fun e he => ?_, fun x hx _ => ?_⟩
  · refine List.pairwise_cons.2 ⟨fun b hb => ?_, List.pairwise_singleton _ _⟩
    rw [List.mem_singleton.1 hb]; exact l1
  · rcases List.mem_cons.1 he with rfl | he
    · exact ⟨by simp, m1⟩
    · rw [List.mem_singleton.1 he]; exact ⟨by simp, m2⟩
  · rcases List.mem_cons.1 hx with rfl | hx
    · exact ⟨ma1, by simp, rfl, of_decide_eq_true e0⟩
    · rcases List.mem_cons.1 hx with rfl | hx
      · exact ⟨ma1, by simp, rfl, of_decide_eq_true e1⟩
      · rw [List.mem_singleton.1 hx]
        exact ⟨mb0, by simp, rfl, of_decide_eq_true e2⟩
end Ve
end Go.Proofs.YtanponneancajaaGreatDoor


namespace Go.Proofs.YtanponneancajaaGreatDoor
open Go.RowKit Go.Maps
namespace Ve
set_option maxHeartbeats 2000000 in
theorem eqS_len (a a' : Option Addr) (n n' c c' : Nat) (w : World) (h : n ≠ n') : Calls Tryz.prog 77 #[.slice a n c, .slice a' n' c'] w fun e w' => e = .returned (.bool false) ∧ Below w.heap.size w w' := by
  have h1 : ¬ (n : Int) = (n' : Int) := by omega
  have h2 : ((n : Int) == (n' : Int)) = false := by simp; omega
  go_enter Tryz.func77, Tryz.ntmps77
  go_wp2_with fail
  go_ret
  exact ⟨rfl, Below.refl _ _⟩
set_option maxHeartbeats 2000000 in
theorem eqS_some (L M : List Bm) (b o c b' o' c' : Nat) (w : World) (hn : L.length ≤ 1000000) (hl : M.length = L.length)
    (hc : ∀ j (h : j < L.length), w.cell? ⟨b, o + j * 2, none⟩ = some (.string L[j].1) ∧ w.cell? ⟨b, o + j * 2 + 1, none⟩ = some (.string L[j].2))
    (hd : ∀ j (h : j < M.length), w.cell? ⟨b', o' + j * 2, none⟩ = some (.string M[j].1) ∧ w.cell? ⟨b', o' + j * 2 + 1, none⟩ = some (.string M[j].2)) :
    Calls Tryz.prog 77 #[.slice (some ⟨b, o, none⟩) L.length c, .slice (some ⟨b', o', none⟩) L.length c'] w fun e w' => e = .returned (.bool (decide (L = M))) ∧ Below w.heap.size w w' := by
  have HC := hid hc
  have HD := hid hd
  have hgd := modGuard
  have HX := hid (show (∀ j (h : j < L.length) (h' : j < M.length), L[j] = M[j]) → decide (L = M) = true from fun h => decide_eq_true (List.ext_getElem hl.symm (fun j h1 h2 => h j h1 h2)))
  have HY := hid (show ∀ j (h : j < L.length) (h' : j < M.length), L[j] ≠ M[j] → decide (L = M) = false from fun j h h' hne => decide_eq_false (fun e => hne (by subst e; rfl)))
  generalize decide (L = M) = z at *
  clear hc hd
  go_enter Tryz.func77, Tryz.ntmps77
  go_wp2_with fail
  go_loopw [13] (fun i wr => ∃ k : Nat, k ≤ L.length ∧ i = .int .i64 k ∧ Hid (∀ j (h : j < L.length) (h' : j < M.length), j < k → L[j] = M[j]) ∧ Hid (Below w.heap.size w wr)) (fun i _ => L.length - (intOf i).toNat)
  case atStart => exact ⟨0, Nat.zero_le _, rfl, hid (fun j _ _ hj => absurd hj (Nat.not_lt_zero _)), hid (Below.refl _ _)⟩
  case round =>
    obtain ⟨k, hk, rfl, HE, HB⟩ := hrel
    by_cases hlt : k < L.length
    · have hlm : k < M.length := by omega
      have hx := cell_below HB.out (HC.out k hlt).1
      have hy := cell_below HB.out (HC.out k hlt).2
      have hx' := cell_below HB.out (HD.out k hlm).1
      have hy' := cell_below HB.out (HD.out k hlm).2
      have hne := fun W => modNeq L[k].1 L[k].2 M[k].1 M[k].2 W
      have hkI : (k : Int) < (L.length : Int) := by omega
      have HLT := hid hlt
      have HN := hid (show L[k] = M[k] → ∀ j (h : j < L.length) (h' : j < M.length), j < k + 1 → L[j] = M[j] from fun h0 j h1 h2 h3 => by
        rcases Nat.lt_or_ge j k with h | h
        · exact HE.out j h1 h2 h
        · have : j = k := by omega
          subst this; exact h0)
      have HYK := hid (HY.out k hlt hlm)
      generalize L[k] = x at *
      generalize M[k] = y at *
      obtain ⟨x1, x2⟩ := x
      obtain ⟨y1, y2⟩ := y
      simp only at hx hy hx' hy' hne
      clear hlt hlm
      by_cases he : x1 = y1 ∧ x2 = y2
      · rw [decide_eq_true he] at hne
        have HN2 := hid (HN.out (Prod.ext he.1 he.2))
        clear he HN
        go_wp2_with fail
        go_quiet (fail)
        go_wp2_with fail
        go_roundw
        case rel => first | exact ⟨k + 1, HLT.out, nr_idx k, HN2, hid (below_drawn_of HB.out _)⟩ | exact ⟨k + 1, HLT.out, nx_idx HLT.out hn, HN2, hid (below_drawn_of HB.out _)⟩
        case measure => first | exact nr_meas HLT.out | exact nx_meas HLT.out hn
      · rw [decide_eq_false he] at hne
        have HZ := hid (HYK.out (fun e => he (by injection e with e1 e2; exact ⟨e1, e2⟩)))
        clear he HN
        go_wp2_with fail
        go_quiet (fail)
        go_wp2_with fail
        go_ret
        exact ⟨by rw [HZ.out]; rfl, below_drawn_of HB.out _⟩
    · have hkI : ¬ (k : Int) < (L.length : Int) := by omega
      have HZ := hid (HX.out (fun j h h' => HE.out j h h' (by omega)))
      go_wp2_with fail
      go_ret
      exact ⟨by rw [HZ.out]; rfl, HB.out⟩
theorem eqS_none (a a' : Option Addr) (c c' : Nat) (w : World) : Calls Tryz.prog 77 #[.slice a 0 c, .slice a' 0 c'] w fun e w' => e = .returned (.bool true) ∧ Below w.heap.size w w' := by
  go_enter Tryz.func77, Tryz.ntmps77
  go_wp2_with fail
  go_loopw [13] (fun i wr => i = .int .i64 0 ∧ wr = w) (fun i _ => 0)
  case atStart => exact ⟨rfl, rfl⟩
  case round =>
    obtain ⟨rfl, rfl⟩ := hrel
    go_wp2_with fail
    go_ret
    exact ⟨rfl, Below.refl _ _⟩
theorem eqS_any (L M : List Bm) (v u : Value) (w : World) (hn : L.length ≤ 1000000) (hv : MsAt w v L) (hu : MsAt w u M) : Calls Tryz.prog 77 #[v, u] w fun e w' => e = .returned (.bool (decide (L = M))) ∧ Below w.heap.size w w' := by
  obtain ⟨a, c, rfl, _, h⟩ := hv
  obtain ⟨a', c', rfl, _, h'⟩ := hu
  by_cases hl : M.length = L.length
  · cases L with
    | nil =>
      have : M = [] := List.length_eq_zero_iff.1 hl
      subst this
      exact eqS_none a a' c c' w
    | cons x r =>
      obtain ⟨b, o, rfl, h2⟩ := h (by simp)
      obtain ⟨b', o', rfl, h3⟩ := h' (fun e => by rw [e] at hl; simp at hl)
      rw [hl]
      exact eqS_some (x :: r) M b o c b' o' c' w hn hl h2 h3
  · rw [decide_eq_false (fun e => hl (by rw [e]))]
    exact eqS_len a a' _ _ c c' w (fun e => hl e.symm)
def risB2 : List Bm → Bool
  | [] => true
  | [_] => true
  | a :: b :: r => lt a.1 b.1 && risB2 (b :: r)
theorem risB2_iff : ∀ {L : List Bm}, risB2 L = true ↔ rising L
  | [] => ⟨fun _ => List.Pairwise.nil, fun _ => rfl⟩
  | [a] => ⟨fun _ => List.pairwise_singleton _ _, fun _ => rfl⟩
  | a :: b :: r => by
    unfold risB2
    rw [Bool.and_eq_true, risB2_iff]
    constructor
    · rintro ⟨h1, h2⟩
      refine List.pairwise_cons.2 ⟨fun c hc => ?_, h2⟩
      rcases List.mem_cons.1 hc with rfl | hc
      · exact h1
      · exact lt_trans h1 ((List.pairwise_cons.1 h2).1 c hc)
    · intro h
      obtain ⟨h1, h2⟩ := List.pairwise_cons.1 h
      exact ⟨h1 b (by simp), h2⟩
theorem risB2_all : ∀ {L : List Bm}, (∀ j (h : j + 1 < L.length), lt (L[j]'(by omega)).1 L[j + 1].1 = true) → risB2 L = true
  | [], _ => rfl
  | [_], _ => rfl
  | a :: b :: r, h => by
    unfold risB2
    rw [Bool.and_eq_true]
    exact ⟨h 0 (by simp), risB2_all (L := b :: r) fun j hj => h (j + 1) (by simpa using hj)⟩
theorem risB2_not {L : List Bm} {j : Nat} (h : j + 1 < L.length) (hn : lt (L[j]'(by omega)).1 L[j + 1].1 = false) : risB2 L = false := by
  cases hb : risB2 L
  · rfl
  · have := List.pairwise_iff_getElem.1 (risB2_iff.1 hb) j (j + 1) (by omega) h (by omega)
    rw [hn] at this; cases this
theorem geqB (a b : ByteArray) (X : World) : (binOp BinOp.geq 9 (.string a) (.string b)).run Tryz.prog X = .ok (.bool (!lt a b)) X := by rw [← noLess_lt, ← noLess_is]; rfl
theorem isSel_none (a : Option Addr) (c : Nat) (w : World) : Calls Tryz.prog 82 #[.slice a 0 c] w fun e w' => e = .returned (.bool true) ∧ Below w.heap.size w w' := by
  go_enter Tryz.func82, Tryz.ntmps82
  go_wp2_with fail
  go_loopw [3] (fun i wr => i = .int .i64 1 ∧ wr = w) (fun i _ => 0)
  case atStart => exact ⟨rfl, rfl⟩
  case round =>
    obtain ⟨rfl, rfl⟩ := hrel
    go_wp2_with fail
    go_ret
    exact ⟨rfl, Below.refl _ _⟩
set_option maxHeartbeats 2000000 in
theorem isSel_some (L : List Bm) (b o c : Nat) (w : World) (hn : L.length ≤ 1000000) (h0 : 0 < L.length)
    (hc : ∀ j (h : j < L.length), w.cell? ⟨b, o + j * 2, none⟩ = some (.string L[j].1) ∧ w.cell? ⟨b, o + j * 2 + 1, none⟩ = some (.string L[j].2)) :
    Calls Tryz.prog 82 #[.slice (some ⟨b, o, none⟩) L.length c] w fun e w' => e = .returned (.bool (risB2 L)) ∧ Below w.heap.size w w' := by
  have HC := hid hc
  have HX := hid (show (∀ j (h : j + 1 < L.length), lt (L[j]'(by omega)).1 L[j + 1].1 = true) → risB2 L = true from fun h => risB2_all h)
  have HY := hid (show ∀ j (h : j + 1 < L.length), lt (L[j]'(by omega)).1 L[j + 1].1 = false → risB2 L = false from fun j h hne => risB2_not h hne)
  generalize risB2 L = z at *
  clear hc
  go_enter Tryz.func82, Tryz.ntmps82
  go_wp2_with fail
  go_loopw [3] (fun i wr => ∃ k : Nat, k + 1 ≤ L.length ∧ i = .int .i64 ((k : Int) + 1) ∧ Hid (∀ j (h : j + 1 < L.length), j < k → lt (L[j]'(by omega)).1 L[j + 1].1 = true) ∧ Hid (Below w.heap.size w wr)) (fun i _ => L.length - (intOf i).toNat)
  case atStart => exact ⟨0, h0, rfl, hid (fun j _ hj => absurd hj (Nat.not_lt_zero _)), hid (Below.refl _ _)⟩
  case round =>
    obtain ⟨k, hk, rfl, HE, HB⟩ := hrel
    by_cases hlt : k + 1 < L.length
    · have hx := cell_below HB.out (HC.out k (Nat.lt_of_succ_lt hlt)).1
      have hx' := cell_below HB.out (HC.out (k + 1) hlt).1
      have hge := fun W => geqB (L[k]'(by omega)).1 L[k + 1].1 W
      have hkI : (k : Int) + 1 < (L.length : Int) := by omega
      have kx1 : (0 : Int) ≤ (k : Int) + 1 := by omega
      have kx2 : (k : Int) + 1 - 1 = (k : Int) := by omega
      have kx3 : (k : Int) < (L.length : Int) := by omega
      have kx4 : (0 : Int) ≤ (k : Int) := by omega
      have ktn : ((k : Int) + 1).toNat = k + 1 := by omega
      have kw0 : wrap64 (k : Int) = (k : Int) := IntWalk.wrap64_in _ (by omega)
      have kw1 : IntKind.i64.wrap (k : Int) = (k : Int) := by rw [IntKind.wrap_i64] <;> omega
      have kw2 : wrap64 ((k : Int) + 1 + 1) = (k : Int) + 1 + 1 := IntWalk.wrap64_in _ (by omega)
      have HLT := hid hlt
      have HN := hid (show lt (L[k]'(by omega)).1 L[k + 1].1 = true → ∀ j (h : j + 1 < L.length), j < k + 1 → lt (L[j]'(by omega)).1 L[j + 1].1 = true from fun h0 j h1 h2 => by
        rcases Nat.lt_or_ge j k with h | h
        · exact HE.out j h1 h
        · have : j = k := by omega
          subst this; exact h0)
      have HYK := hid (HY.out k hlt)
      generalize (L[k]'(Nat.lt_of_succ_lt hlt)) = x at *
      generalize (L[k + 1]'hlt) = y at *
      obtain ⟨x1, x2⟩ := x
      obtain ⟨y1, y2⟩ := y
      simp only at hx hx' hge HN HYK
      clear hlt hk
      cases he : lt x1 y1 with
      | true =>
        have HN2 := hid (HN.out he)
        rw [he] at hge
        clear he HN HYK
        go_wp2_with fail
        go_quiet (fail)
        go_wp2_with fail
        go_roundw
        case rel => exact ⟨k + 1, HLT.out, by first | rfl | (simp only [kw2]; push_cast; rfl), HN2, hid (below_drawn_of HB.out _)⟩
        case measure =>
          have := HLT.out
          simp only [intOf]
          omega
      | false =>
        have HZ := hid (HYK.out he)
        rw [he] at hge
        clear he HN HYK
        go_wp2_with fail
        go_quiet (fail)
        go_wp2_with fail
        go_ret
        exact ⟨by rw [HZ.out]; rfl, below_drawn_of HB.out _⟩
    · have hkI : ¬ (k : Int) + 1 < (L.length : Int) := by omega
      have HZ := hid (HX.out (fun j h => HE.out j h (by omega)))
      go_wp2_with fail
      go_ret
      exact ⟨by rw [HZ.out]; rfl, HB.out⟩
theorem isSel_any (L : List Bm) (v : Value) (w : World) (hv : MsAt w v L) (hn : L.length ≤ 1000000) :
    Calls Tryz.prog 82 #[v] w fun e w' => e = .returned (.bool (risB2 L)) ∧ Below w.heap.size w w' := by
  obtain ⟨a, c, rfl, _, h⟩ := hv
  cases L with
  | nil => exact isSel_none a c w
  | cons x r =>
    obtain ⟨b, o, rfl, h2⟩ := h (by simp)
    exact isSel_some (x :: r) b o c w hn (by simp) h2
end Ve
end Go.Proofs.YtanponneancajaaGreatDoor


namespace Go.Proofs.YtanponneancajaaGreatDoor
open Go.RowKit Go.Maps
namespace Ve
theorem univ_right {Q : List Raw} {L : List Ent} (h : (chk Q L).1 = 0) : ∀ m, m ∈ univ L → mErr m = 0 := fun m hm => by
  obtain ⟨e, he, rfl⟩ := List.mem_map.1 hm
  obtain ⟨j, hj, rfl⟩ := List.getElem_of_mem he
  exact entE_mod hj ((chk_each0 h).2 j hj)
end Ve
end Go.Proofs.YtanponneancajaaGreatDoor


namespace Go.Proofs.YtanponneancajaaGreatDoor
open Go.RowKit Go.Maps
namespace Ve
theorem ix_lt {i n : Nat} (h : i < n) : (i : Int) < (n : Int) := Int.ofNat_lt.2 h
theorem ix_nlt {i n : Nat} (h : ¬ i < n) : ¬ (i : Int) < (n : Int) := fun e => h (Int.ofNat_lt.1 e)
theorem ix_pos (i : Nat) : (0 : Int) ≤ (i : Int) := Int.natCast_nonneg _
theorem ix_pos1 (i : Nat) : (0 : Int) ≤ (i : Int) + 1 := by omega
theorem ix_lt1 {i n : Nat} (h : i + 1 < n) : (i : Int) + 1 < (n : Int) := by omega
theorem ix_nlt1 {i n : Nat} (h : ¬ i + 1 < n) : ¬ (i : Int) + 1 < (n : Int) := by omega
theorem ix_nat1 (i : Nat) : ((i : Int) + 1).toNat = i + 1 := by omega
theorem ix_w1 {i n : Nat} (h : i < n) (hn : n ≤ 1000000) : wrap64 ((i : Int) + 1) = (i : Int) + 1 := IntWalk.wrap64_in _ (by omega)
theorem ix_k1 {i n : Nat} (h : i < n) (hn : n ≤ 1000000) : IntKind.i64.wrap ((i : Int) + 1) = (i : Int) + 1 := by rw [IntKind.wrap_i64] <;> omega
end Ve
end Go.Proofs.YtanponneancajaaGreatDoor


namespace Go.Proofs.YtanponneancajaaGreatDoor
open Go.RowKit Go.Maps
namespace Ve
theorem ms_atJ {W : World} {b o n c : Nat} {X : List Bm} (h : MsAt W (.slice (some ⟨b, o, none⟩) n c) X) {k : Nat} (hk : k < X.length) : W.cell? ⟨b, o + k * 2, none⟩ = some (.string X[k].1) ∧ W.cell? ⟨b, o + k * 2 + 1, none⟩ = some (.string X[k].2) := by
  obtain ⟨b', o', e, h1⟩ := h.cells hk
  injection e with e
  injection e with e1 e2
  subst e1 e2
  exact h1
def nextB (X : List Bm) (i : Nat) (p : ByteArray) : Bool := match X[i + 1]? with
  | some y => decide (y.1 = p)
  | none => false
def lastN (X : List Bm) : Nat → List Bm
  | 0 => []
  | i + 1 => lastN X i ++ match X[i]? with
    | some x => if nextB X i x.1 then [] else [x]
    | none => []
theorem lastN_skip {X : List Bm} {i : Nat} (h : i < X.length) (hb : nextB X i X[i].1 = true) : lastN X (i + 1) = lastN X i := by
  show lastN X i ++ _ = _
  rw [List.getElem?_eq_getElem h]
  simp only [hb, if_true, List.append_nil]
theorem lastN_keep {X : List Bm} {i : Nat} (h : i < X.length) (hb : nextB X i X[i].1 = false) : lastN X (i + 1) = lastN X i ++ [X[i]] := by
  show lastN X i ++ _ = _
  rw [List.getElem?_eq_getElem h]
  simp [hb]
theorem lastN_len (X : List Bm) : ∀ i, (lastN X i).length ≤ i
  | 0 => Nat.le_refl _
  | i + 1 => by
    have h := lastN_len X i
    show (lastN X i ++ _).length ≤ _
    rw [List.length_append]
    split
    · split
      · simp; omega
      · simp; omega
    · simp; omega
theorem nextB_at {X : List Bm} {i : Nat} {p : ByteArray} (h : i + 1 < X.length) : nextB X i p = decide (X[i + 1].1 = p) := by unfold nextB; rw [List.getElem?_eq_getElem h]
theorem nextB_end {X : List Bm} {i : Nat} {p : ByteArray} (h : ¬ i + 1 < X.length) : nextB X i p = false := by unfold nextB; rw [List.getElem?_eq_none (by omega)]
theorem lastN_over {X : List Bm} {n : Nat} (h : ¬ n < X.length) : lastN X (n + 1) = lastN X n := by
  show lastN X n ++ _ = _
  rw [List.getElem?_eq_none (by omega)]; simp
theorem lastN_mem {X : List Bm} {e : Bm} : ∀ n, e ∈ lastN X n ↔ ∃ i, ∃ h : i < X.length, i < n ∧ X[i] = e ∧ nextB X i X[i].1 = false
  | 0 => ⟨(fun h => by cases h), fun ⟨i, _, h, _⟩ => absurd h (Nat.not_lt_zero _)⟩
  | n + 1 => by
    have ih := lastN_mem (X := X) (e := e) n
    by_cases h : n < X.length
    · cases hb : nextB X n X[n].1
      · rw [lastN_keep h hb, List.mem_append, ih, List.mem_singleton]
        constructor
        · rintro (⟨i, hi, h1, h2, h3⟩ | rfl)
          · exact ⟨i, hi, by omega, h2, h3⟩
          · exact ⟨n, h, by omega, rfl, hb⟩
        · rintro ⟨i, hi, h1, h2, h3⟩
          rcases Nat.lt_or_ge i n with h4 | h4
          · exact Or.inl ⟨i, hi, h4, h2, h3⟩
          · have : i = n := by omega
            subst this; exact Or.inr h2.symm
      · rw [lastN_skip h hb, ih]
        constructor
        · rintro ⟨i, hi, h1, h2, h3⟩; exact ⟨i, hi, by omega, h2, h3⟩
        · rintro ⟨i, hi, h1, h2, h3⟩
          rcases Nat.lt_or_ge i n with h4 | h4
          · exact ⟨i, hi, h4, h2, h3⟩
          · have : i = n := by omega
            subst this; rw [hb] at h3; cases h3
    · rw [lastN_over h, ih]
      constructor
      · rintro ⟨i, hi, h1, h2, h3⟩; exact ⟨i, hi, by omega, h2, h3⟩
      · rintro ⟨i, hi, h1, h2, h3⟩; exact ⟨i, hi, by omega, h2, h3⟩
theorem lastN_rising {X : List Bm} (hX : X.Pairwise fun a b => mAhead a b = true) : ∀ n, n ≤ X.length → rising (lastN X n)
  | 0, _ => List.Pairwise.nil
  | n + 1, hn => by
    have ih := lastN_rising hX n (by omega)
    have h : n < X.length := by omega
    cases hb : nextB X n X[n].1
    · rw [lastN_keep h hb]
      refine List.pairwise_append.2 ⟨ih, List.pairwise_singleton _ _, fun a ha b hbb => ?_⟩
      rw [List.mem_singleton.1 hbb]
      obtain ⟨i, hi, h1, rfl, h3⟩ := (lastN_mem n).1 ha
      have hp := List.pairwise_iff_getElem.1 hX
      have h4 : i + 1 < X.length := by omega
      rw [nextB_at h4] at h3
      have h5 : X[i + 1].1 ≠ X[i].1 := of_decide_eq_false h3
      have h6 := hp i (i + 1) hi h4 (by omega)
      rw [ahead_other (fun e => h5 e.symm)] at h6
      rcases Nat.lt_or_ge (i + 1) n with h7 | h7
      · have h8 := hp (i + 1) n h4 h h7
        by_cases e : X[i + 1].1 = X[n].1
        · rw [← e]; exact h6
        · rw [ahead_other e] at h8; exact lt_trans h6 h8
      · have : n = i + 1 := by omega
        subst this; exact h6
    · rw [lastN_skip h hb]; exact ih
theorem ordV_selfJ {m : Bm} (h : mErr m = 0) : ordV (vb m) (vb m) ≤ 0 := by rw [(ordV_zero (mErr_zero h).2 (mErr_zero h).2).2 rfl]; omega
theorem lastN_top {X : List Bm} (hX : X.Pairwise fun a b => mAhead a b = true) (hr : ∀ m, m ∈ X → mErr m = 0) : ∀ (d i : Nat) (hi : i < X.length), X.length - i = d → ∃ e, e ∈ lastN X X.length ∧ e.1 = X[i].1 ∧ ordV (vb X[i]) (vb e) ≤ 0
  | 0, i, hi, h => by omega
  | d + 1, i, hi, h => by
    have hm := hr X[i] (List.getElem_mem hi)
    cases hb : nextB X i X[i].1
    · exact ⟨X[i], (lastN_mem _).2 ⟨i, hi, hi, rfl, hb⟩, rfl, ordV_selfJ hm⟩
    · by_cases h1 : i + 1 < X.length
      · rw [nextB_at h1] at hb
        have h2 : X[i + 1].1 = X[i].1 := of_decide_eq_true hb
        obtain ⟨e, he, e1, e2⟩ := lastN_top hX hr d (i + 1) h1 (by omega)
        have hm1 := hr X[i + 1] (List.getElem_mem h1)
        have h3 := List.pairwise_iff_getElem.1 hX i (i + 1) hi h1 (by omega)
        rw [ahead_same h2.symm, less_right (mErr_zero hm).2 (mErr_zero hm1).2] at h3
        have h4 := of_decide_eq_true h3
        have hme : mErr e = 0 := by
          obtain ⟨j, hj, _, rfl, _⟩ := (lastN_mem _).1 he
          exact hr _ (List.getElem_mem hj)
        exact ⟨e, he, e1.trans h2, ordV_le_trans (mErr_zero hm).2 (mErr_zero hm1).2 (mErr_zero hme).2 (Int.le_of_lt h4) e2⟩
      · rw [nextB_end h1] at hb; cases hb
theorem lastN_jn {X : List Bm} (hX : X.Pairwise fun a b => mAhead a b = true) (hr : ∀ m, m ∈ X → mErr m = 0) : Jn X (lastN X X.length) := by
  refine ⟨lastN_rising hX _ (Nat.le_refl _), fun e he => ?_, fun x hx _ => ?_⟩
  · obtain ⟨j, hj, _, rfl, _⟩ := (lastN_mem _).1 he
    exact ⟨List.getElem_mem hj, hr _ (List.getElem_mem hj)⟩
  · obtain ⟨i, hi, rfl⟩ := List.getElem_of_mem hx
    exact lastN_top hX hr _ i hi rfl
noncomputable def bX (Q : List Raw) (L : List Ent) (roots : List Bm) : List Bm := lastN (rX Q L roots) (rX Q L roots).length
theorem bX_same {Q Q' : List Raw} {L : List Ent} (h : Q.map (fun r => r.1) = Q'.map (fun r => r.1)) (roots : List Bm) : bX Q L roots = bX Q' L roots := by unfold bX; rw [rX_same h]
theorem rX_rises {Q : List Raw} {L : List Ent} {roots : List Bm} : (rX Q L roots).Pairwise fun a b => mAhead a b = true := by
  by_cases h : (chkG Q L roots).1 = 0
  · unfold rX
    rw [if_pos h]
    have hc : (chk Q L).1 = 0 := by
      by_cases hc : (chk Q L).1 = 0
      · exact hc
      · rw [chkG_bad hc] at h; exact h
    exact List.Pairwise.filter _ (univ_rises hc)
  · rw [rX_bad h]; exact List.Pairwise.nil
theorem chkG_chk {Q : List Raw} {L : List Ent} {roots : List Bm} (h : (chkG Q L roots).1 = 0) : (chk Q L).1 = 0 := by
  by_cases hc : (chk Q L).1 = 0
  · exact hc
  · rw [chkG_bad hc] at h; exact h
theorem rX_right {Q : List Raw} {L : List Ent} {roots : List Bm} : ∀ m, m ∈ rX Q L roots → mErr m = 0 := fun m hm => by
  obtain ⟨h1, h2⟩ := rX_in hm
  exact univ_right (chkG_chk h1) m h2
theorem bX_jn (Q : List Raw) (L : List Ent) (roots : List Bm) : Jn (rX Q L roots) (bX Q L roots) := lastN_jn rX_rises rX_right
theorem bX_len {Q : List Raw} {L : List Ent} {roots : List Bm} : (bX Q L roots).length ≤ L.length := Nat.le_trans (lastN_len _ _) rX_len
theorem bX_bad {Q : List Raw} {L : List Ent} {roots : List Bm} (h : ¬ (chkG Q L roots).1 = 0) : bX Q L roots = [] := by unfold bX; rw [rX_bad h]; rfl
theorem bt_bX {w : World} {v : Value} {Q : List Raw} {L : List Ent} {roots E : List Bm} (I : Ixs w v Q L) (h : (chkG Q L roots).1 = 0) (hb : Bt Q L roots E) : E = bX Q L roots := by
  obtain ⟨T, h1, h2, _⟩ := hb.c
  rw [rX_go I h h1] at h2
  exact h2.one (bX_jn Q L roots) (fun _ _ => Iff.rfl)
theorem Mr.below {w0 W W' : World} {v : Value} {D : List Bm} (h : Mr w0 W v D) (hb : Below W.heap.size W W') : Mr w0 W' v D := by
  obtain ⟨h1, a, cap, rfl, hc, hk⟩ := h
  refine ⟨h1.trans (hb.mono h1.size), a, cap, rfl, hc, ?_⟩
  rcases hk with hk | ⟨g, rfl, hM⟩
  · exact Or.inl hk
  · exact Or.inr ⟨g, rfl, hM.below hb⟩
theorem box2J {W : World} {g : Nat} {x y : Value} {T : TypeId} (h : W.heap[g]? = some (.cells #[x, y] T (0, 0))) : W.cell? ⟨g, 0, none⟩ = some x ∧ W.cell? ⟨g, 1, none⟩ = some y ∧ ∀ o, W.frozen? ⟨g, o, none⟩ = false :=
  ⟨by rw [Lib.cell_of_heap h]; rfl, by rw [Lib.cell_of_heap h]; rfl, fun o => Lib.frozen_of_heap h o⟩
theorem mr_nil0 {w w' : World} (h : Below w.heap.size w w') : Mr w w' (.slice none 0 0) [] := ⟨h, none, 0, rfl, Nat.le_refl _, Or.inl ⟨rfl, fun _ => rfl⟩⟩
theorem build_all (Q : List Raw) (L : List Ent) (roots : List Bm) (v rv : Value) (A : Nat → Addr) (m : Int) (w : World) (hn : L.length ≤ 1000) (hrn : roots.length ≤ 1000000) (sh : ∀ e, e ∈ L → ShE e) (S : Te w A m) (I : Ixs w v Q L) (hr : MsAt w rv roots) :
    Calls Tryz.prog 30 #[v, rv] w fun e w' => ∃ a c x, e = .returned (.tuple #[.slice a (bX Q L roots).length c, x]) ∧ Mr w w' (.slice a (bX Q L roots).length c) (bX Q L roots) ∧ ErrAt w' A x (rF Q L roots).1 (rF Q L roots).2 := by
  by_cases h : (chkG Q L roots).1 = 0
  · refine (build_good Q L roots v rv A m w hn hrn sh S I hr h).mono ?_
    rintro e w' ⟨u, E, rfl, hbt, hm⟩
    have he := bt_bX I h hbt
    subst he
    obtain ⟨a, c, hu⟩ := hm.sl
    subst hu
    exact ⟨a, c, _, rfl, hm, by rw [rF_good h]; rfl⟩
  · refine (build_bad Q L roots v rv A m w hn hrn sh S I hr h).mono ?_
    rintro e w' ⟨T, a, rfl, he, hb⟩
    rw [bX_bad h, rF_bad h]
    exact ⟨_, _, _, rfl, mr_nil0 hb, he⟩
end Ve
end Go.Proofs.YtanponneancajaaGreatDoor


namespace Go.Proofs.YtanponneancajaaGreatDoor
open Go.RowKit Go.Maps
namespace Ve
theorem hasV_iff {B : List Bm} {m : Bm} : hasV B m = true ↔ ∃ x, atP B m.1 = some x ∧ lessB (vb x) (vb m) = false := by
  unfold hasV
  cases h : atP B m.1 with
  | none => simp
  | some x => simp
theorem atP_mem {B : List Bm} {p : ByteArray} {x : Bm} (h : atP B p = some x) : x ∈ B ∧ x.1 = p := by
  unfold atP at h
  exact ⟨List.mem_of_find?_eq_some h, by have := List.find?_some h; simpa using this⟩
theorem less_le {a b : Bm} (ha : mErr a = 0) (hb : mErr b = 0) : lessB (vb a) (vb b) = false ↔ ordV (vb b) (vb a) ≤ 0 := by
  rw [less_right (mErr_zero ha).2 (mErr_zero hb).2]
  simp only [decide_eq_false_iff_not]
  rw [ordV_swap (vb b) (vb a)]
  omega
theorem rch_univ {w : World} {v : Value} {Q : List Raw} {L : List Ent} {roots : List Bm} (I : Ixs w v Q L) (h : (chkG Q L roots).1 = 0) {m : Bm} (hm : Rch (reqQ Q L) roots m) : m ∈ univ L := by
  have r := rgt_of I h
  induction hm with
  | root hr => exact r.r _ hr
  | step _ hr ih => exact chk_reqs0 I r.c _ ih _ hr
theorem hasV_up {sel : List Bm} {m r : Bm} (hr : ∀ x, x ∈ sel → mErr x = 0) (hm0 : mErr m = 0) (hr0 : mErr r = 0) (hp : r.1 = m.1) (ho : ordV (vb m) (vb r) ≤ 0) (h : hasV sel r = true) : hasV sel m = true := by
  obtain ⟨s, h1, h2⟩ := hasV_iff.1 h
  have hs := hr s (atP_mem h1).1
  rw [hp] at h1
  exact hasV_iff.2 ⟨s, h1, (less_le hs hm0).2 (ordV_le_trans (mErr_zero hm0).2 (mErr_zero hr0).2 (mErr_zero hs).2 ho ((less_le hs hr0).1 h2))⟩
end Ve
end Go.Proofs.YtanponneancajaaGreatDoor


namespace Go.Proofs.YtanponneancajaaGreatDoor
open Go.RowKit Go.Maps
namespace Ve
theorem rX_mem {w : World} {v : Value} {Q : List Raw} {L : List Ent} {roots : List Bm} (I : Ixs w v Q L) (h : (chkG Q L roots).1 = 0) {m : Bm} : m ∈ rX Q L roots ↔ Rch (reqQ Q L) roots m := by
  unfold rX
  rw [if_pos h, List.mem_filter]
  constructor
  · rintro ⟨_, h1⟩; simpa using h1
  · intro h1; exact ⟨rch_univ I h h1, by simpa using h1⟩
theorem bX_univ {Q : List Raw} {L : List Ent} {roots : List Bm} : ∀ m, m ∈ bX Q L roots → m ∈ univ L := fun m hm => (rX_in ((bX_jn Q L roots).sub m hm).1).2
theorem bX_over {w : World} {v : Value} {Q : List Raw} {L : List Ent} {roots A : List Bm} (I : Ixs w v Q L) (h : (chkG Q L roots).1 = 0) (hA : ∀ m, m ∈ A → Rch (reqQ Q L) roots m) : undB A (bX Q L roots) = true :=
  (bX_jn Q L roots).over fun m hm => ⟨(rX_mem I h).2 (hA m hm), univ_right (chkG_chk h) m (rch_univ I h (hA m hm))⟩
structure Sl (L : List Ent) (E : List Bm) : Prop where
  ri : rising E
  un : ∀ m, m ∈ E → m ∈ univ L
theorem bX_sl (Q : List Raw) (L : List Ent) (roots : List Bm) : Sl L (bX Q L roots) := ⟨(bX_jn Q L roots).ri, bX_univ⟩
end Ve
end Go.Proofs.YtanponneancajaaGreatDoor


namespace Go.Proofs.YtanponneancajaaGreatDoor
open Go.RowKit Go.Maps
namespace Ve
theorem pw_ext {α : Type} {r : α → α → Prop} (irr : ∀ a, ¬ r a a) (asy : ∀ a b, r a b → ¬ r b a) : ∀ {E F : List α}, E.Pairwise r → F.Pairwise r → (∀ m, m ∈ E ↔ m ∈ F) → E = F
  | [], [], _, _, _ => rfl
  | [], f :: F, _, _, h => by have := (h f).2 (by simp); cases this
  | e :: E, [], _, _, h => by have := (h e).1 (by simp); cases this
  | e :: E, f :: F, hE, hF, h => by
    obtain ⟨hE1, hE2⟩ := List.pairwise_cons.1 hE
    obtain ⟨hF1, hF2⟩ := List.pairwise_cons.1 hF
    have hef : e = f := by
      rcases List.mem_cons.1 ((h e).1 (by simp)) with a | a
      · exact a
      · rcases List.mem_cons.1 ((h f).2 (by simp)) with b | b
        · exact b.symm
        · exact absurd (hE1 f b) (asy _ _ (hF1 e a))
    subst hef
    have : E = F := pw_ext irr asy hE2 hF2 fun m => by
      constructor
      · intro hm
        rcases List.mem_cons.1 ((h m).1 (List.mem_cons_of_mem _ hm)) with a | a
        · subst a; exact absurd (hE1 m hm) (irr _)
        · exact a
      · intro hm
        rcases List.mem_cons.1 ((h m).2 (List.mem_cons_of_mem _ hm)) with a | a
        · subst a; exact absurd (hF1 m hm) (irr _)
        · exact a
    rw [this]
theorem kept_one {L : List ByteArray} {n : Nat} {X Y : List ByteArray} (hX : Kept L n X) (hY : Kept L n Y) : X = Y := by
  have h : bl X = bl Y := pw_ext (r := fun s t => ordV s t < 0) (fun a h => ordV_irr h h) (fun a b h => ordV_irr h) hX.1 hY.1 fun t => by rw [hX.2, hY.2]
  exact (List.map_inj_right (fun x y e => str_ext e)).1 h
end Ve
end Go.Proofs.YtanponneancajaaGreatDoor
