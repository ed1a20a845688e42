
import Derived.Test.YtanponneancajaaGreatDoorBt9
import Derived.Test.YtanponneancajaaGreatDoorBt5
import Derived.Deep.RegionHeldLaw
import Derived.Deep.AppendLies
import Derived.Deep.RegionHeld
import Derived.Test.YtanponneancajaaGreatDoorBt6
import Derived.Test.YtanponneancajaaGreatDoorBt2
namespace Go.Proofs.YtanponneancajaaGreatDoor
open Go.RowKit Go.Maps
namespace Ve
abbrev KeptT (Q : List Raw) (t : ByteArray) (X : List ByteArray) : Prop := Kept (verL (bestR (ofP t Q))) (verL (bestR (ofP t Q))).length X
open Classical in
noncomputable def latV (Q : List Raw) (t : ByteArray) : ByteArray := if h : ∃ X, KeptT Q t X then lastT h.choose else ⟨#[]⟩
theorem latV_of {Q : List Raw} {t : ByteArray} {X : List ByteArray} (h : KeptT Q t X) : lastT X = latV Q t := by
  have he : ∃ X, KeptT Q t X := ⟨X, h⟩
  unfold latV
  rw [dif_pos he, kept_one h he.choose_spec]
noncomputable def latL (Q : List Raw) (E : List Bm) : List Bm := E.map fun m => (m.1, latV Q m.1)
theorem latL_len (Q : List Raw) (E : List Bm) : (latL Q E).length = E.length := by simp [latL]
def LatIn (Q : List Raw) (L : List Ent) (E : List Bm) : Prop := ∀ m, m ∈ E → (m.1, latV Q m.1) ∈ univ L
theorem lat_in {w : World} {v : Value} {Q : List Raw} {L : List Ent} {t : ByteArray} {X : List ByteArray} (I : Ixs w v Q L) (hc : (chk Q L).1 = 0) (ht : ∃ m, m ∈ univ L ∧ m.1 = t) (hK : KeptT Q t X) : (t, latV Q t) ∈ univ L := by
  have g := good_of I hc
  obtain ⟨m, hm, e⟩ := ht
  rw [← univ_eq I] at hm
  obtain ⟨r0, hr0, rfl⟩ := List.mem_map.1 hm
  have hne : ofP t Q ≠ [] := List.ne_nil_of_mem (g.ofP_mem.2 ⟨hr0, e⟩)
  have hsub : ∀ r, r ∈ bestR (ofP t Q) → r ∈ Q := fun r hr => ofP_sub r (bestR_sub hr)
  obtain ⟨⟨r, hr, er⟩, -⟩ := kept_last g hsub (bestR_ne hne) hK
  have hrq := g.ofP_mem.1 (bestR_sub hr)
  rw [← univ_eq I, ← latV_of hK]
  exact List.mem_map.2 ⟨r, hrq.1, Prod.ext hrq.2 er⟩
noncomputable def upF (Q : List Raw) (L : List Ent) (E : List Bm) : List Bm := bX Q L (E ++ latL Q E)
theorem latL_in {Q : List Raw} {L : List Ent} {E : List Bm} (h : LatIn Q L E) : ∀ m, m ∈ latL Q E → m ∈ univ L := fun m hm => by
  obtain ⟨x, hx, rfl⟩ := List.mem_map.1 hm
  exact h x hx
theorem upG {w : World} {v : Value} {Q : List Raw} {L : List Ent} {E : List Bm} (I : Ixs w v Q L) (hc : (chk Q L).1 = 0) (hE : Sl L E) (hl : LatIn Q L E) : (chkG Q L (E ++ latL Q E)).1 = 0 :=
  chkG_in I hc fun m hm => by
    rcases List.mem_append.1 hm with h | h
    · exact hE.un m h
    · exact latL_in hl m h
theorem up_over {w : World} {v : Value} {Q : List Raw} {L : List Ent} {E : List Bm} (I : Ixs w v Q L) (hc : (chk Q L).1 = 0) (hE : Sl L E) (hl : LatIn Q L E) : undB E (upF Q L E) = true :=
  bX_over I (upG I hc hE hl) fun _ hm => .root (List.mem_append_left _ hm)
theorem hasV_trans {Q : List Raw} {L : List Ent} {E F : List Bm} (hc : (chk Q L).1 = 0) (hE : Sl L E) (hF : Sl L F) (hu : undB E F = true) {m : Bm} (hm : m ∈ univ L) (h : hasV E m = true) : hasV F m = true := by
  obtain ⟨x, h1, h2⟩ := hasV_iff.1 h
  obtain ⟨hx, hp⟩ := atP_mem h1
  have rt := univ_right hc
  exact hasV_up (fun y hy => rt y (hF.un y hy)) (rt m hm) (rt x (hE.un x hx)) hp ((less_le (rt x (hE.un x hx)) (rt m hm)).1 h2) (List.all_eq_true.1 hu x hx)
theorem undB_trans {Q : List Raw} {L : List Ent} {D E F : List Bm} (hc : (chk Q L).1 = 0) (hD : Sl L D) (hE : Sl L E) (hF : Sl L F) (h1 : undB D E = true) (h2 : undB E F = true) : undB D F = true := by
  unfold undB
  rw [List.all_eq_true]
  intro m hm
  exact hasV_trans hc hE hF h2 (hD.un m hm) (List.all_eq_true.1 h1 m hm)
theorem undB_refl {Q : List Raw} {L : List Ent} {E : List Bm} (hc : (chk Q L).1 = 0) (hE : Sl L E) : undB E E = true := by
  unfold undB
  rw [List.all_eq_true]
  intro m hm
  exact hasV_of hE.ri hm rfl (ordV_selfJ (univ_right hc m (hE.un m hm)))
theorem over_more {Q : List Raw} {L : List Ent} {E F : List Bm} (hc : (chk Q L).1 = 0) (hE : Sl L E) (hF : Sl L F) (hu : undB E F = true) (hne : F ≠ E) : ∃ m, m ∈ univ L ∧ hasV F m = true ∧ hasV E m = false := by
  have rt := univ_right hc
  by_cases hs : ∀ m, m ∈ F → m ∈ E
  · refine absurd (rising_ext hF.ri hE.ri fun m => ⟨hs m, fun hm => ?_⟩) hne
    obtain ⟨x, h1, h2⟩ := hasV_iff.1 (List.all_eq_true.1 hu m hm)
    obtain ⟨hx, hp⟩ := atP_mem h1
    have := rising_same hE.ri (hs x hx) hm hp
    rw [← this]; exact hx
  · obtain ⟨m, hm⟩ := Classical.not_forall.1 hs
    obtain ⟨hm, hn⟩ : m ∈ F ∧ ¬ m ∈ E := by
      by_cases h : m ∈ F
      · exact ⟨h, fun h2 => hm fun _ => h2⟩
      · exact absurd (fun h2 => absurd h2 h) hm
    refine ⟨m, hF.un m hm, hasV_of hF.ri hm rfl (ordV_selfJ (rt m (hF.un m hm))), ?_⟩
    cases hb : hasV E m
    · rfl
    · obtain ⟨b, h1, h2⟩ := hasV_iff.1 hb
      obtain ⟨hbE, hbp⟩ := atP_mem h1
      obtain ⟨f, h3, h4⟩ := hasV_iff.1 (List.all_eq_true.1 hu b hbE)
      obtain ⟨hfF, hfp⟩ := atP_mem h3
      have : f = m := rising_same hF.ri hfF hm (hfp.trans hbp)
      subst this
      have r1 := rt b (hE.un b hbE)
      have r2 := rt f (hF.un f hm)
      have : b = f := ver_same r1 r2 hbp ((less_le r2 r1).1 h4) ((less_le r1 r2).1 h2)
      subst this
      exact absurd hbE hn
def cntV (L : List Ent) (E : List Bm) : Nat := ((univ L).filter (hasV E)).length
theorem cntV_le (L : List Ent) (E : List Bm) : cntV L E ≤ L.length := by
  have := List.length_filter_le (hasV E) (univ L)
  rw [univ_len] at this
  exact this
theorem filter_lt {α : Type} {p q : α → Bool} : ∀ {l : List α}, (∀ x, x ∈ l → p x = true → q x = true) → (∃ x, x ∈ l ∧ q x = true ∧ p x = false) → (l.filter p).length < (l.filter q).length
  | [], _, ⟨x, hx, _⟩ => by cases hx
  | a :: l, h, ⟨x, hx, h1, h2⟩ => by
    have hl : ∀ x, x ∈ l → p x = true → q x = true := fun x hx => h x (List.mem_cons_of_mem _ hx)
    have hle : (l.filter p).length ≤ (l.filter q).length := by
      clear h hx h1 h2
      induction l with
      | nil => exact Nat.le_refl _
      | cons b l ih =>
        have ih := ih (fun x hx => hl x (List.mem_cons_of_mem _ hx))
        rw [List.filter_cons, List.filter_cons]
        cases hp : p b
        · cases hq : q b <;> simp <;> omega
        · rw [hl b (by simp) hp]; simpa using ih
    rw [List.filter_cons, List.filter_cons]
    rcases List.mem_cons.1 hx with rfl | hx
    · rw [h1, h2]; simp; omega
    · have ih := filter_lt hl ⟨x, hx, h1, h2⟩
      cases hp : p a
      · cases hq : q a <;> simp <;> omega
      · rw [h a (by simp) hp]; simpa using ih
theorem cntV_lt {Q : List Raw} {L : List Ent} {E F : List Bm} (hc : (chk Q L).1 = 0) (hE : Sl L E) (hF : Sl L F) (hu : undB E F = true) (hne : F ≠ E) : cntV L E < cntV L F := by
  obtain ⟨m, h1, h2, h3⟩ := over_more hc hE hF hu hne
  exact filter_lt (fun x hx h => hasV_trans hc hE hF hu hx h) ⟨m, h1, h2, h3⟩
noncomputable def upN (Q : List Raw) (L : List Ent) (E : List Bm) : Nat → List Bm
  | 0 => E
  | n + 1 => upF Q L (upN Q L E n)
theorem upN_app (Q : List Raw) (L : List Ent) (E : List Bm) (a : Nat) : ∀ b, upN Q L (upN Q L E a) b = upN Q L E (a + b)
  | 0 => rfl
  | b + 1 => by
    show upF Q L (upN Q L (upN Q L E a) b) = upF Q L (upN Q L E (a + b))
    rw [upN_app Q L E a b]
theorem upN_fix {Q : List Raw} {L : List Ent} {E : List Bm} (h : upF Q L E = E) : ∀ n, upN Q L E n = E
  | 0 => rfl
  | n + 1 => by show upF Q L (upN Q L E n) = E; rw [upN_fix h n, h]
structure Fix (Q : List Raw) (L : List Ent) (E0 E : List Bm) : Prop where
  n : ∃ n, E = upN Q L E0 n
  f : upF Q L E = E
theorem Fix.one {Q : List Raw} {L : List Ent} {E0 E F : List Bm} (hE : Fix Q L E0 E) (hF : Fix Q L E0 F) : E = F := by
  obtain ⟨a, ha⟩ := hE.n
  obtain ⟨b, hb⟩ := hF.n
  rcases Nat.le_total a b with h | h
  · obtain ⟨d, rfl⟩ := Nat.exists_eq_add_of_le h
    rw [hb, ← upN_app, ← ha, upN_fix hE.f]
  · obtain ⟨d, rfl⟩ := Nat.exists_eq_add_of_le h
    rw [ha, ← upN_app, ← hb, upN_fix hF.f]
end Ve
end Go.Proofs.YtanponneancajaaGreatDoor


namespace Go.Proofs.YtanponneancajaaGreatDoor
open Go.RowKit Go.Maps
namespace Ve
theorem latL_next {Q : List Raw} {E : List Bm} {k : Nat} (h : k < E.length) : latL Q (E.take (k + 1)) = latL Q (E.take k) ++ [(E[k].1, latV Q E[k].1)] := by
  unfold latL
  rw [List.take_succ_eq_append_getElem h, List.map_append]; rfl
theorem keep_grow {W3 W4 : World} {o : Obj} {b : Nat} {row : Option Nat} {x : Value} (hg : (W3.alloc o).grownBy W4 row) (hb : b < W3.heap.size) (hne : some b ≠ row) (hc : W3.cell? ⟨b, 0, none⟩ = some x) : W4.cell? ⟨b, 0, none⟩ = some x ∧ Hid (b < W4.heap.size) := by
  have hl : b < (W3.alloc o).heap.size := by simp; omega
  have h1 := ((Below.refl W3.heap.size W3).alloc (Nat.le_refl _) o).block b hb
  have h2 := hg.block b hl hne
  refine ⟨?_, hid (Nat.lt_of_lt_of_le hl hg.size)⟩
  rw [World.cell?_of_block h2, World.cell?_of_block h1]; exact hc
def LatK (Q : List Raw) (E : List Bm) : Prop := ∀ x, x ∈ E → ∃ X, KeptT Q x.1 X
set_option maxRecDepth 100000 in
set_option maxHeartbeats 4000000 in
theorem latest_row (Q : List Raw) (mods : List Bm) (v mv : Value) (A : Nat → Addr) (m : Int) (w : World) (hL : Q.length ≤ 1000) (hn : mods.length ≤ 1000) (hz : ∀ r, r ∈ Q → r.1.1.size ≤ 80 ∧ r.1.2.size ≤ 80) (S : Te w A m) (htab : Lib.TabIs Tryz.prog w powName .u64 Lib.pow10Tab) (hv : EsAt w v Q) (hm : MsAt w mv mods) :
    Calls Tryz.prog 76 #[v, mv] w fun e w' => ∃ u, e = .returned u ∧ w'.ownsRow w.heap.size 51 2 u (latL Q mods).length (flatM (latL Q mods)) ∧ LatK Q mods ∧ Below w.heap.size w w' := by
  have HLA := hid (fun t W (h : Below w.heap.size w W) => latest_any Q t v (A 0) (A 1) m W hL hz (S.below h).vs (tab_below htab h) (hv.below h))
  have HM := hid (fun W (h : Below w.heap.size w W) => hm.below h)
  have HNM := hid (show mods.length ≤ 1000000 by omega)
  have HN := hid hn
  obtain ⟨i0, hi0, hz0, hz1, hz2⟩ := info_parts infoMod
  obtain ⟨va, vc, hv1, -⟩ := id hv
  subst hv1
  obtain ⟨ma, mc, hm1, -⟩ := id hm
  subst hm1
  clear hv hm S htab hz hn
  go_enter Tryz.func76, Tryz.ntmps76
  go_wp2_with fail
  go_loopw [5, 10] (fun ov iv wr => ∃ i : Nat, i ≤ mods.length ∧ iv = .int .i64 i ∧ Hid (wr.ownsRow w.heap.size 51 2 ov (latL Q (mods.take i)).length (flatM (latL Q (mods.take i)))) ∧ Hid (∀ j (h : j < mods.length), j < i → ∃ X, KeptT Q mods[j].1 X) ∧ Hid (Below w.heap.size w wr)) (fun _ iv _ => mods.length - (intOf iv).toNat)
  case atStart => exact ⟨0, Nat.zero_le _, rfl, hid (World.ownsRow_nil _ _ _ _), hid (fun j _ hj => absurd hj (Nat.not_lt_zero _)), hid (Below.refl _ _)⟩
  case round =>
    obtain ⟨i, hi, rfl, HOW, HK, HBr⟩ := hrel
    by_cases hlt : i < mods.length
    · have hiI := ix_lt hlt
      have hii := ix_pos i
      have HLI := hid hlt
      obtain ⟨xb, xo, hxa, y0, y1⟩ := (HM.out _ HBr.out).cells hlt
      subst hxa
      have HST := hid (latL_next (Q := Q) hlt)
      have HSL := hid (show (latL Q (mods.take i)).length ≤ 1000 by rw [latL_len]; exact Nat.le_trans (List.length_take_le' i mods) HN.out)
      have HKN := hid (show (∃ X, KeptT Q mods[i].1 X) → ∀ j (h : j < mods.length), j < i + 1 → ∃ X, KeptT Q mods[j].1 X from fun h0 j h1 h2 => by
        rcases Nat.lt_or_ge j i with h | h
        · exact HK.out j h1 h
        · have : j = i := by omega
          subst this; exact h0)
      generalize mods[i] = x at *
      obtain ⟨p, q⟩ := x
      simp only at y0 y1 HST HKN
      obtain ⟨SX, hSX⟩ : ∃ SX, latL Q (mods.take i) = SX := ⟨_, rfl⟩
      rw [hSX] at HOW HST HSL
      clear hSX hlt
      have HAl := hid ((Below.refl wr.heap.size wr).alloc (Nat.le_refl _) (.cells #[.string p, .string q] 51))
      have HBa := hid (HBr.out.trans (HAl.out.mono HBr.out.size))
      have HM0 := hid (heap_new wr (.cells #[.string p, .string q] 51))
      have HOa := hid (HOW.out.alloc (.cells #[.string p, .string q] 51))
      have HNE := hid (show some wr.heap.size ≠ u5.ownBlock from fun h => Nat.lt_irrefl _ (own_lt HOW.out h.symm).1)
      go_wp2_with fail
      obtain ⟨wa, hwa⟩ : ∃ wa, wr.alloc (.cells #[.string p, .string q] 51) = wa := ⟨_, rfl⟩
      rw [hwa] at HAl HBa HM0 HOa ⊢
      have HSZ := hid (show wr.heap.size < wa.heap.size from lt_of_blk HM0.out)
      clear hwa
      obtain ⟨m0, m1, mf⟩ := box2J HM0.out
      have HW := hid (fun W' (hW : Below wa.heap.size wa W') => HBa.out.trans (hW.mono HBa.out.size))
      have HT := hid (fun W' (hW : Below wa.heap.size wa W') => (show (fun W' => W'.cell? ⟨wr.heap.size, 0, none⟩ = some (.string p) ∧ Hid (wr.heap.size < W'.heap.size)) W' from ⟨cell_below hW m0, hid (Nat.lt_of_lt_of_le HSZ.out hW.size)⟩))
      have HLP := hid (fun W (h : Below w.heap.size w W) => HLA.out p W h)
      go_region_held_law (fun W' => W'.cell? ⟨wr.heap.size, 0, none⟩ = some (.string p) ∧ Hid (wr.heap.size < W'.heap.size)) (first | exact keep_grow HR9.out (HT.out _ HRa.out).2.out HNE.out (HT.out _ HRa.out).1 | exact HT.out _ (HRa.out.alloc HRa.out.size _) | exact HT.out _ HRa.out | exact HT.out _ (below_drawn _ 1)) (first
        | (go_at_call 26; refine (HLP.out _ (HW.out _ (below_drawn _ 1))).mono ?_; rintro e w3 ⟨X, rfl, hK, hb⟩; have HRa := hid ((below_drawn wa 1).trans (hb.mono (Nat.le_refl _))); have HKX := hid hK; have HLV := hid (latV_of hK); clear hb hK)
        | (refine step_append_lies _ (by rfl) _ _ 52 (by rfl) w.heap.size 51 i0 _ 2 32 Tryz.underlying52 hi0 hz0 hz1 hz2 rfl (by decide) _ _ _ (by rfl) ((owns_below HOa.out HRa.out).alloc _) ⟨w3.heap.size, 0, none⟩ 1 1 [.string p, .string (lastT X)] (by rfl) rfl (World.news_of_block (heap_new _ _)) (by intro u hu; simp at hu; rcases hu with rfl | rfl <;> rfl) (by decide) (Nat.le_trans (Nat.add_le_add_right HSL.out 1) (by unfold maxLen; decide)) (by have := HSL.out; omega) (Nat.le_trans (HW.out _ HRa.out).size (by simp)) (w3.heap.size + 1) (by simp) ?_; intro g cap w4 hown hgrow hat hlt2; have HR9 := hid hgrow))
      all_goals
        have HB4 := hid (rel_app2 HBa.out.size HBa.out HOa.out HRa.out hgrow)
        have HO4 := hid (show w4.ownsRow w.heap.size 51 2 (.slice (some ⟨g, 0, none⟩) (SX.length + 1) cap) (SX ++ [(p, latV Q p)]).length (flatM (SX ++ [(p, latV Q p)])) by rw [← HLV.out, List.length_append, flatM_app]; exact hown)
        have HK4 := hid (HKN.out ⟨X, HKX.out⟩)
        clear hown hgrow hat hlt2 HR9 m0 m1 mf
        go_wp2_with fail
        go_roundw
        case rel => first | exact ⟨i + 1, HLI.out, nr_idx i, hid (by rw [HST.out]; exact HO4.out), HK4, HB4⟩ | exact ⟨i + 1, HLI.out, nx_idx HLI.out HNM.out, hid (by rw [HST.out]; exact HO4.out), HK4, HB4⟩
        case measure => first | exact nr_meas HLI.out | exact nx_meas HLI.out HNM.out
    · have hiI := ix_nlt hlt
      have hie : i = mods.length := Nat.le_antisymm hi (Nat.le_of_not_lt hlt)
      have HTA := hid (show mods.take i = mods from List.take_of_length_le (by omega))
      rw [HTA.out] at HOW
      have HKA := hid (show LatK Q mods from fun x hx => by
        obtain ⟨j, hj, rfl⟩ := List.getElem_of_mem hx
        exact HK.out j hj (by omega))
      clear hlt
      go_wp2_with fail
      go_ret
      exact ⟨_, rfl, HOW.out, HKA.out, HBr.out⟩
end Ve
end Go.Proofs.YtanponneancajaaGreatDoor


namespace Go.Proofs.YtanponneancajaaGreatDoor
open Go.RowKit Go.Maps
namespace Ve
theorem ms_one {W : World} {v : Value} {E F : List Bm} (hE : MsAt W v E) (hF : MsAt W v F) : E = F := by
  obtain ⟨a, c, rfl, _, h1⟩ := hE
  obtain ⟨a', c', e, _, h2⟩ := hF
  injection e with e1 e2 e3
  subst e1
  refine List.ext_getElem e2 fun j hj hj' => ?_
  obtain ⟨b, o, rfl, k1⟩ := h1 (fun e => by rw [e] at hj; exact absurd hj (Nat.not_lt_zero _))
  obtain ⟨b', o', e4, k2⟩ := h2 (fun e => by rw [e] at hj'; exact absurd hj' (Nat.not_lt_zero _))
  injection e4 with e4
  injection e4 with e5 e6
  subst e5 e6
  have p1 := (k1 j hj).1
  have p2 := (k1 j hj).2
  rw [(k2 j hj').1] at p1
  rw [(k2 j hj').2] at p2
  injection p1 with p1
  injection p1 with p1
  injection p2 with p2
  injection p2 with p2
  exact Prod.ext p1.symm p2.symm
open Classical in
noncomputable def rdM (W : World) (v : Value) : List Bm := if h : ∃ E, MsAt W v E then h.choose else []
theorem rdM_eq {W : World} {v : Value} {E : List Bm} (h : MsAt W v E) : rdM W v = E := by
  have he : ∃ E, MsAt W v E := ⟨E, h⟩
  unfold rdM
  rw [dif_pos he]
  exact ms_one he.choose_spec h
theorem ms_single {W : World} {b : Nat} {x : Bm} {fr : Nat × Nat} (h : W.heap[b]? = some (.cells #[.string x.1, .string x.2] 51 fr)) : MsAt W (.slice (some ⟨b, 0, none⟩) 1 1) [x] := by
  refine ⟨_, 1, rfl, Nat.le_refl _, fun _ => ⟨b, 0, rfl, fun j hj => ?_⟩⟩
  have : j = 0 := by simp at hj; exact hj
  subst this
  exact ⟨by rw [Lib.cell_of_heap h]; rfl, by rw [Lib.cell_of_heap h]; rfl⟩
theorem em_some (a : Addr) (n c : Nat) (D : List Bm) : Em (.slice (some a) n c) D := fun a' c' e _ => by
  injection e with e1 e2 e3
  subst e1 e3
  exact Or.inr ⟨a, rfl⟩
set_option maxRecDepth 100000 in
set_option maxHeartbeats 2000000 in
theorem one_bad (Q : List Raw) (L : List Ent) (roots : List Bm) (x : Bm) (v rv : Value) (A : Nat → Addr) (m : Int) (w : World) (hn : L.length ≤ 1000) (hrn : roots.length ≤ 400) (sh : ∀ e, e ∈ L → ShE e) (S : Te w A m) (I : Ixs w v Q L) (hr : MsAt w rv roots) (h0 : ¬ (chkG Q L roots).1 = 0) :
    Calls Tryz.prog 36 #[v, rv, .agg #[.string x.1, .string x.2]] w fun e w' => ∃ T a, e = .returned (.tuple #[.slice none 0 0, .iface T (.pointer (some a))]) ∧ ErrAt w' A (.iface T (.pointer (some a))) (chkG Q L roots).1 (chkG Q L roots).2 ∧ Below w.heap.size w w' := by
  obtain ⟨p, q⟩ := x
  have HB0 := hid ((Below.refl w.heap.size w).alloc (Nat.le_refl _) (.cells #[.string p, .string q] 51))
  have HBU := hid (build_bad Q L roots v rv A m _ hn (by omega) sh (S.below HB0.out) (I.below HB0.out) (hr.below HB0.out) h0)
  obtain ⟨a, c, hv, -⟩ := id I.es
  subst hv
  obtain ⟨ra, rc, hrv, -⟩ := id hr
  subst hrv
  clear S I hr sh h0
  go_enter Tryz.func36, Tryz.ntmps36
  go_wp2_with fail
  refine HBU.out.mono ?_
  rintro e w1 ⟨T, xa, rfl, he, hb⟩
  have HB1 := hid (HB0.out.trans (hb.mono HB0.out.size))
  have HE := hid he
  clear hb he HBU
  go_wp2_with fail
  go_ret2
  exact ⟨_, _, rfl, HE.out, HB1.out⟩
set_option maxRecDepth 100000 in
set_option maxHeartbeats 2000000 in
theorem one_not (Q : List Raw) (L : List Ent) (roots : List Bm) (x : Bm) (v rv : Value) (A : Nat → Addr) (m : Int) (w : World) (hn : L.length ≤ 1000) (hrn : roots.length ≤ 400) (sh : ∀ e, e ∈ L → ShE e) (S : Te w A m) (I : Ixs w v Q L) (hr : MsAt w rv roots) (h0 : (chkG Q L roots).1 = 0) (hx : ¬ x ∈ univ L) :
    Calls Tryz.prog 36 #[v, rv, .agg #[.string x.1, .string x.2]] w fun e w' => e = .returned (.tuple #[.slice none 0 0, errA A 5]) ∧ Below w.heap.size w w' := by
  obtain ⟨p, q⟩ := x
  have HB0 := hid ((Below.refl w.heap.size w).alloc (Nat.le_refl _) (.cells #[.string p, .string q] 51))
  have HM0 := hid (heap_new w (.cells #[.string p, .string q] 51))
  have HBU := hid (build_good Q L roots v rv A m _ hn (by omega) sh (S.below HB0.out) (I.below HB0.out) (hr.below HB0.out) h0)
  have HFI := hid (fun W (h : Below w.heap.size w W) => find_any Q (p, q) v W (by rw [I.ln]; omega) (I.below h).es)
  obtain ⟨k, hk, hkn⟩ : ∃ k, idxOf (isM (p, q)) Q = k ∧ k < 0 := by
    rcases idx_nat (isM (p, q)) Q with h1 | ⟨k, h1⟩
    · exact ⟨_, h1, by omega⟩
    · exact absurd ((found_iff I (p, q)).2 ⟨k, h1⟩) hx
  rw [hk] at HFI
  have HS := hid (fun W (h : Below w.heap.size w W) => S.below h)
  obtain ⟨a, c, hv, -⟩ := id I.es
  subst hv
  obtain ⟨ra, rc, hrv, -⟩ := id hr
  subst hrv
  clear S I hr sh h0 hx hk
  go_enter Tryz.func36, Tryz.ntmps36
  go_wp2_with fail
  refine HBU.out.mono ?_
  rintro e w1 ⟨u, E, rfl, -, hm⟩
  have HB1 := hid (HB0.out.trans (hm.1.mono HB0.out.size))
  have HM1 := hid ((hm.1.block _ (lt_of_blk HM0.out)).trans HM0.out)
  obtain ⟨ua, uc, hu⟩ := hm.sl
  subst hu
  obtain ⟨m0, m1, mf⟩ := box2J HM1.out
  clear hm HBU
  go_wp2_with fail
  refine (HFI.out _ HB1.out).mono ?_
  rintro e w2 ⟨rfl, hb⟩
  have HB2 := hid (HB1.out.trans (hb.mono HB1.out.size))
  have g4 := (HS.out _ HB2.out).sen.g4
  clear hb m0 m1 mf
  go_wp2_with fail
  go_quiet (fail)
  go_wp2_with fail
  go_ret2
  exact ⟨rfl, below_drawn_of HB2.out _⟩
set_option maxRecDepth 100000 in
set_option maxHeartbeats 4000000 in
theorem one_good (Q : List Raw) (L : List Ent) (roots : List Bm) (x : Bm) (v rv : Value) (A : Nat → Addr) (m : Int) (w : World) (hn : L.length ≤ 1000) (hrn : roots.length ≤ 400) (sh : ∀ e, e ∈ L → ShE e) (S : Te w A m) (I : Ixs w v Q L) (hr : MsAt w rv roots) (her : Em rv roots) (h0 : (chkG Q L roots).1 = 0) (hx : x ∈ univ L) :
    Calls Tryz.prog 36 #[v, rv, .agg #[.string x.1, .string x.2]] w fun e w' => ∃ a c, e = .returned (.tuple #[.slice a (bX Q L (roots ++ [x])).length c, .nilIface]) ∧ Mr w w' (.slice a (bX Q L (roots ++ [x])).length c) (bX Q L (roots ++ [x])) := by
  have hg : (chkG Q L (roots ++ [x])).1 = 0 := chkG_in I (chkG_chk h0) fun y hy => by
    rcases List.mem_append.1 hy with h | h
    · exact (rgt_of I h0).r y h
    · rw [List.mem_singleton.1 h]; exact hx
  obtain ⟨p, q⟩ := x
  have HB0 := hid ((Below.refl w.heap.size w).alloc (Nat.le_refl _) (.cells #[.string p, .string q] 51))
  have HM0 := hid (heap_new w (.cells #[.string p, .string q] 51))
  have HBU := hid (build_good Q L roots v rv A m _ hn (by omega) sh (S.below HB0.out) (I.below HB0.out) (hr.below HB0.out) h0)
  have HFI := hid (fun W (h : Below w.heap.size w W) => find_any Q (p, q) v W (by rw [I.ln]; omega) (I.below h).es)
  obtain ⟨k, hk⟩ := (found_iff I (p, q)).1 hx
  rw [hk] at HFI
  have hk0 : ¬ (k : Int) < 0 := by omega
  have HB2 := hid (fun W u (h : Below w.heap.size w W) (hu : MsAt W u (roots ++ [(p, q)])) => build_all Q L (roots ++ [(p, q)]) v u A m W hn (by simp; omega) sh (S.below h) (I.below h) hu)
  rw [rF_good hg] at HB2
  have HR := hid (fun W (h : Below w.heap.size w W) => hr.below h)
  have HER := hid her
  obtain ⟨a, c, hv, -⟩ := id I.es
  subst hv
  obtain ⟨ra, rc, hrv, -⟩ := id hr
  subst hrv
  clear S I hr sh h0 hx hk her hg
  go_enter Tryz.func36, Tryz.ntmps36
  go_wp2_with fail
  refine HBU.out.mono ?_
  rintro e w1 ⟨u, E, rfl, -, hm⟩
  have HB1 := hid (HB0.out.trans (hm.1.mono HB0.out.size))
  have HM1 := hid ((hm.1.block _ (lt_of_blk HM0.out)).trans HM0.out)
  obtain ⟨ua, uc, hu⟩ := hm.sl
  subst hu
  obtain ⟨m0, m1, mf⟩ := box2J HM1.out
  clear hm HBU
  go_wp2_with fail
  refine (HFI.out _ HB1.out).mono ?_
  rintro e w2 ⟨rfl, hb⟩
  have HBb := hid (HB1.out.trans (hb.mono HB1.out.size))
  have HM2 := hid ((hb.block _ (lt_of_blk HM1.out)).trans HM1.out)
  clear hb m0 m1 mf
  obtain ⟨m0, m1, mf⟩ := box2J HM2.out
  have HA3 := hid ((Below.refl w2.heap.size w2).alloc (Nat.le_refl _) (.cells #[.string p, .string q] 51))
  have HN3 := hid (heap_new w2 (.cells #[.string p, .string q] 51))
  have HA4 := hid (HA3.out.alloc HA3.out.size (.cells #[.slice ra roots.length rc, .slice (some ⟨w2.heap.size, 0, none⟩) 1 1] 52))
  have HN4 := hid (heap_old _ (.cells #[.slice ra roots.length rc, .slice (some ⟨w2.heap.size, 0, none⟩) 1 1] 52) HN3.out)
  have HL4 := hid (heap_new (w2.alloc (.cells #[.string p, .string q] 51)) (.cells #[.slice ra roots.length rc, .slice (some ⟨w2.heap.size, 0, none⟩) 1 1] 52))
  have hsz : (w2.alloc (.cells #[.string p, .string q] 51)).heap.size = w2.heap.size + 1 := by simp
  rw [hsz] at HL4
  go_wp2_with fail
  generalize (w2.alloc (.cells #[.string p, .string q] 51)).alloc (.cells #[.slice ra roots.length rc, .slice (some ⟨w2.heap.size, 0, none⟩) 1 1] 52) = w4 at *
  have HB4 := hid (HBb.out.trans (HA4.out.mono HBb.out.size))
  have HCT := hid (cat_any roots [(p, q)] (.slice ra roots.length rc) (.slice (some ⟨w2.heap.size, 0, none⟩) 1 1) (w2.heap.size + 1) w4 (by rw [Lib.cell_of_heap HL4.out]; rfl) (by rw [Lib.cell_of_heap HL4.out]; rfl) (HR.out _ HB4.out) (ms_single HN4.out) HER.out (em_some _ _ _ _) (by omega) (by simp))
  clear m0 m1 mf HA3 HA4 HN3 HN4 HL4 hsz HM2 HM1 HM0
  refine HCT.out.mono ?_
  rintro e w5 ⟨cu, rfl, ho, hb⟩
  have HB5 := hid (HB4.out.trans (hb.mono HB4.out.size))
  have HBE := hid (HB2.out w5 cu HB5.out (own_ms ho))
  obtain ⟨RX, hRX⟩ : ∃ RX, roots ++ [(p, q)] = RX := ⟨_, rfl⟩
  obtain ⟨BX, hBX⟩ : ∃ BX, bX Q L (roots ++ [(p, q)]) = BX := ⟨_, rfl⟩
  have HBX := hid hBX
  rw [hBX] at HBE
  rw [hRX] at ho
  obtain ⟨ca, cc, hcu⟩ := own_slN ho
  subst hcu
  clear ho hb HCT HB2 hRX hBX
  go_wp2_with fail
  refine HBE.out.mono ?_
  rintro e w6 ⟨xa, xc, y, rfl, hm, he⟩
  have he : y = .nilIface := he
  subst he
  have HMX := hid (hm.base HB5.out)
  clear hm HBE
  go_wp2_with fail
  go_ret2
  have h := HBX.out
  subst h
  exact ⟨_, _, rfl, HMX.out⟩
set_option maxRecDepth 100000 in
set_option maxHeartbeats 2000000 in
theorem all_bad (Q : List Raw) (L : List Ent) (roots : List Bm) (v rv : Value) (A : Nat → Addr) (m : Int) (w : World) (hn : L.length ≤ 1000) (hrn : roots.length ≤ 1000000) (sh : ∀ e, e ∈ L → ShE e) (S : Te w A m) (I : Ixs w v Q L) (hr : MsAt w rv roots) (h0 : ¬ (chkG Q L roots).1 = 0) :
    Calls Tryz.prog 32 #[v, rv] w fun e w' => ∃ T a, e = .returned (.tuple #[.slice none 0 0, .iface T (.pointer (some a))]) ∧ ErrAt w' A (.iface T (.pointer (some a))) (chkG Q L roots).1 (chkG Q L roots).2 ∧ Below w.heap.size w w' := by
  have HBU := hid (build_bad Q L roots v rv A m _ hn hrn sh S I hr h0)
  obtain ⟨a, c, hv, -⟩ := id I.es
  subst hv
  obtain ⟨ra, rc, hrv, -⟩ := id hr
  subst hrv
  clear S I hr sh h0
  go_enter Tryz.func32, Tryz.ntmps32
  go_wp2_with fail
  refine HBU.out.mono ?_
  rintro e w1 ⟨T, xa, rfl, he, hb⟩
  have HB1 := hid hb
  have HE := hid he
  clear hb he HBU
  go_wp2_with fail
  go_ret2
  exact ⟨_, _, rfl, HE.out, HB1.out⟩
structure AllR (Q : List Raw) (L : List Ent) (roots E : List Bm) : Prop where
  fx : Fix Q L (bX Q L roots) E
  sl : Sl L E
  la : LatIn Q L E
  ov : undB (bX Q L roots) E = true
set_option maxRecDepth 100000 in
set_option maxHeartbeats 4000000 in
theorem all_good (Q : List Raw) (L : List Ent) (roots : List Bm) (v rv : Value) (A : Nat → Addr) (m : Int) (w : World) (hn : L.length ≤ 400) (hrn : roots.length ≤ 1000000) (hz : ∀ r, r ∈ Q → r.1.1.size ≤ 80 ∧ r.1.2.size ≤ 80) (sh : ∀ e, e ∈ L → ShE e) (S : Te w A m) (htab : Lib.TabIs Tryz.prog w powName .u64 Lib.pow10Tab) (I : Ixs w v Q L) (hr : MsAt w rv roots) (h0 : (chkG Q L roots).1 = 0) :
    Calls Tryz.prog 32 #[v, rv] w fun e w' => ∃ a c E, e = .returned (.tuple #[.slice a E.length c, .nilIface]) ∧ Mr w w' (.slice a E.length c) E ∧ AllR Q L roots E := by
  have HC := hid (chkG_chk h0)
  have HBU := hid (build_all Q L roots v rv A m w (by omega) hrn sh S I hr)
  rw [rF_good h0] at HBU
  have HI := hid (fun W (h : Below w.heap.size w W) => I.below h)
  have HLR := hid (fun E W u (h : Below w.heap.size w W) (hE : E.length ≤ L.length) (hu : MsAt W u E) => latest_row Q E v u A m W (by rw [I.ln]; omega) (by omega) hz (S.below h) (tab_below htab h) (I.below h).es hu)
  have HLI := hid (fun E (hE : Sl L E) (hK : LatK Q E) => show LatIn Q L E from fun x hx => by
    obtain ⟨X, hX⟩ := hK x hx
    exact lat_in I HC.out ⟨x, hE.un x hx, rfl⟩ hX)
  have HB2 := hid (fun E W u (hE : Sl L E) (hl : LatIn Q L E) (hEl : E.length ≤ L.length) (h : Below w.heap.size w W) (hu : MsAt W u (E ++ latL Q E)) => build_all Q L (E ++ latL Q E) v u A m W (by omega) (by rw [List.length_append, latL_len]; omega) sh (S.below h) (I.below h) hu)
  have HG2 := hid (fun E (hE : Sl L E) (hl : LatIn Q L E) => rF_good (upG I HC.out hE hl))
  have HOV := hid (fun E (hE : Sl L E) (hl : LatIn Q L E) => up_over I HC.out hE hl)
  have HLN := hid hn
  obtain ⟨a, c, hv, -⟩ := id I.es
  subst hv
  obtain ⟨ra, rc, hrv, -⟩ := id hr
  subst hrv
  have HB0 := hid (bX_sl Q L roots)
  have HBL := hid (show (bX Q L roots).length ≤ L.length from bX_len)
  have HUR := hid (undB_refl HC.out HB0.out)
  clear S I hr sh h0 htab hz
  go_enter Tryz.func32, Tryz.ntmps32
  go_wp2_with fail
  refine HBU.out.mono ?_
  rintro e w1 ⟨xa, xc, y, rfl, hm, he⟩
  have he : y = .nilIface := he
  subst he
  have HM1 := hid hm
  clear hm HBU
  go_wp2_with fail
  go_loopw [6] (fun bv wr => ∃ E, Hid (Mr w wr bv E) ∧ Hid (∃ n, E = upN Q L (bX Q L roots) n) ∧ Hid (Sl L E) ∧ Hid (E.length ≤ L.length) ∧ Hid (undB (bX Q L roots) E = true)) (fun bv wr => L.length - cntV L (rdM wr bv))
  case atStart => exact ⟨_, HM1, hid ⟨0, rfl⟩, HB0, HBL, HUR⟩
  case round =>
    obtain ⟨E, HM, HNN, HSL, HEL, HUN⟩ := hrel
    have HRD := hid (rdM_eq HM.out.ms)
    obtain ⟨ea, ec, hu6⟩ := HM.out.sl
    subst hu6
    have HLE := hid (HLR.out E wr _ HM.out.1 HEL.out HM.out.ms)
    go_wp2_with fail
    refine HLE.out.mono ?_
    rintro e w2 ⟨lu, rfl, ho, hK, hb⟩
    have HLA := hid (HLI.out E HSL.out hK)
    have HB2' := hid (HM.out.1.trans (hb.mono HM.out.1.size))
    have HML := hid (mr_own ho hb)
    have HME := hid (HM.out.below hb)
    obtain ⟨la, lc, hlu⟩ := HML.out.sl
    subst hlu
    clear ho hK hb HLE
    have HA3 := hid ((Below.refl w2.heap.size w2).alloc (Nat.le_refl _) (.cells #[.slice ea E.length ec, .slice la (latL Q E).length lc] 52))
    have HL3 := hid (heap_new w2 (.cells #[.slice ea E.length ec, .slice la (latL Q E).length lc] 52))
    go_wp2_with fail
    generalize w2.alloc (.cells #[.slice ea E.length ec, .slice la (latL Q E).length lc] 52) = w3 at *
    have HB3 := hid (HB2'.out.trans (HA3.out.mono HB2'.out.size))
    have HCT := hid (cat_any E (latL Q E) _ _ w2.heap.size w3 (by rw [Lib.cell_of_heap HL3.out]; rfl) (by rw [Lib.cell_of_heap HL3.out]; rfl) (HME.out.ms.below HA3.out) (HML.out.ms.below HA3.out) HME.out.em HML.out.em (by have := HEL.out; have := HLN.out; omega) (by rw [latL_len]; have := HEL.out; have := HLN.out; omega))
    have HME3 := hid (HME.out.below HA3.out)
    clear HA3 HL3 HML HME
    refine HCT.out.mono ?_
    rintro e w4 ⟨cu, rfl, ho, hb⟩
    have HB4 := hid (HB3.out.trans (hb.mono HB3.out.size))
    have HBE := hid (HB2.out E w4 cu HSL.out HLA.out HEL.out HB4.out (own_ms ho))
    rw [HG2.out E HSL.out HLA.out] at HBE
    have HME4 := hid (HME3.out.below hb)
    have HUF := hid (show bX Q L (E ++ latL Q E) = upF Q L E from rfl)
    rw [HUF.out] at HBE
    obtain ⟨EL, hEL⟩ : ∃ EL, E ++ latL Q E = EL := ⟨_, rfl⟩
    rw [hEL] at ho
    obtain ⟨ca, cc, hcu⟩ := own_slN ho
    subst hcu
    clear ho hb HCT HME3 hEL HUF
    go_wp2_with fail
    refine HBE.out.mono ?_
    rintro e w5 ⟨na, nc, y, rfl, hm, he⟩
    have he : y = .nilIface := he
    subst he
    have HMN := hid (hm.base HB4.out)
    have HME5 := hid (HME4.out.below hm.1)
    have HSF := hid (show Sl L (upF Q L E) from bX_sl _ _ _)
    have HFL := hid (show (upF Q L E).length ≤ L.length from bX_len)
    have HOE := hid (HOV.out E HSL.out HLA.out)
    have HEQ := hid (eqS_any (upF Q L E) E _ _ w5 (by have := HFL.out; have := HLN.out; omega) HMN.out.ms HME5.out.ms)
    clear hm HBE HME4
    by_cases hF : upF Q L E = E
    · rw [decide_eq_true hF] at HEQ
      have HAR := hid (show AllR Q L roots E from ⟨⟨HNN.out, hF⟩, HSL.out, HLA.out, HUN.out⟩)
      rw [hF] at HMN HEQ ⊢
      clear hF HSF HFL HOE
      go_wp2_with fail
      refine HEQ.out.mono ?_
      rintro e w6 ⟨rfl, hb⟩
      have HM6 := hid (HMN.out.below hb)
      clear hb
      go_wp2_with fail
      go_ret2
      exact ⟨_, _, E, rfl, HM6.out, HAR.out⟩
    · rw [decide_eq_false hF] at HEQ
      have HCN := hid (cntV_lt HC.out HSL.out HSF.out HOE.out hF)
      have HN2 := hid (show ∃ n, upF Q L E = upN Q L (bX Q L roots) n by
        obtain ⟨n, hn⟩ := HNN.out
        exact ⟨n + 1, by rw [hn]; rfl⟩)
      have HU2 := hid (undB_trans HC.out HB0.out HSL.out HSF.out HUN.out HOE.out)
      have HCE := hid (cntV_le L (upF Q L E))
      clear hF
      generalize upF Q L E = F at *
      go_wp2_with fail
      refine HEQ.out.mono ?_
      rintro e w6 ⟨rfl, hb⟩
      have HM6 := hid (HMN.out.below hb)
      clear hb
      go_wp2_with fail
      go_roundw
      case rel => exact ⟨F, HM6, HN2, HSF, HFL, HU2⟩
      case measure =>
        show L.length - cntV L (rdM w6 _) < L.length - cntV L (rdM wr _)
        rw [rdM_eq HM6.out.ms, HRD.out]
        have h1 := HCN.out
        have h2 := HCE.out
        omega
end Ve
end Go.Proofs.YtanponneancajaaGreatDoor


namespace Go.Proofs.YtanponneancajaaGreatDoor
open Go.RowKit Go.Maps
namespace Ve
noncomputable def newsL (Q : List Raw) (E : List Bm) : List Bm := (E.filter fun m => lessB (vb m) (latV Q m.1).data.toList).map fun m => (m.1, latV Q m.1)
theorem latL_get {Q : List Raw} {E : List Bm} {i : Nat} (h : i < (latL Q E).length) (h' : i < E.length) : (latL Q E)[i] = (E[i].1, latV Q E[i].1) := by simp [latL]
theorem newsL_next {Q : List Raw} {E : List Bm} {k : Nat} (h : k < E.length) : newsL Q (E.take (k + 1)) = newsL Q (E.take k) ++ (if lessB (vb E[k]) (latV Q E[k].1).data.toList then [(E[k].1, latV Q E[k].1)] else []) := by
  unfold newsL
  rw [List.take_succ_eq_append_getElem h, List.filter_append, List.map_append]
  congr 1
  cases hb : lessB (vb E[k]) (latV Q E[k].1).data.toList <;> simp [hb]
theorem newsL_len (Q : List Raw) (E : List Bm) : (newsL Q E).length ≤ E.length := by
  unfold newsL
  rw [List.length_map]
  exact List.length_filter_le _ _
theorem lat_sz {Q : List Raw} {t : ByteArray} {X : List ByteArray} (g : Good Q) (hz : ∀ r, r ∈ Q → r.1.1.size ≤ 80 ∧ r.1.2.size ≤ 80) (hK : KeptT Q t X) : (latV Q t).size ≤ 80 := by
  rw [← latV_of hK]
  cases hX : X with
  | nil => exact Nat.zero_le _
  | cons x s =>
    have hp : 0 < X.length := by rw [hX]; simp
    rw [← hX, lastT_get hp]
    obtain ⟨r, hr, e⟩ := kept_has g (R := bestR (ofP t Q)) (fun r hr => ofP_sub r (bestR_sub hr)) hK (x := X[X.length - 1]) (List.getElem_mem _)
    rw [← e]
    exact (hz r (ofP_sub r (bestR_sub hr))).2
set_option maxRecDepth 100000 in
set_option maxHeartbeats 2000000 in
theorem news_bad (Q : List Raw) (L : List Ent) (sel : List Bm) (v sv : Value) (A : Nat → Addr) (m : Int) (w : World) (hn : L.length ≤ 1000) (sh : ∀ e, e ∈ L → ShE e) (S : Te w A m) (I : Ixs w v Q L) (hs : MsAt w sv sel) (h0 : ¬ (chk Q L).1 = 0) :
    Calls Tryz.prog 34 #[v, sv] w fun e w' => ∃ T a, e = .returned (.tuple #[.slice none 0 0, .iface T (.pointer (some a))]) ∧ ErrAt w' A (.iface T (.pointer (some a))) (chk Q L).1 (chk Q L).2 ∧ Below w.heap.size w w' := by
  have HCK := hid (icheck_any Q L v A m w (by omega) sh S I)
  obtain ⟨a, c, hv, -⟩ := id I.es
  subst hv
  obtain ⟨sa, sc, hsv, -⟩ := id hs
  subst hsv
  clear S I hs sh
  go_enter Tryz.func34, Tryz.ntmps34
  go_wp2_with fail
  refine HCK.out.mono ?_
  rintro e w1 ⟨x, rfl, he, hb⟩
  have HB1 := hid hb
  have HE := hid he
  rcases he.kind with ⟨h, _⟩ | ⟨_, T, xa, rfl⟩
  · exact absurd h h0
  clear he hb HCK h0
  go_wp2_with fail
  go_ret2
  exact ⟨_, _, rfl, HE.out, HB1.out⟩
set_option maxRecDepth 100000 in
set_option maxHeartbeats 2000000 in
theorem news_ord (Q : List Raw) (L : List Ent) (sel : List Bm) (v sv : Value) (A : Nat → Addr) (m : Int) (w : World) (hn : L.length ≤ 1000) (hsn : sel.length ≤ 1000) (sh : ∀ e, e ∈ L → ShE e) (S : Te w A m) (I : Ixs w v Q L) (hs : MsAt w sv sel) (h0 : (chk Q L).1 = 0) (h1 : risB2 sel = false) :
    Calls Tryz.prog 34 #[v, sv] w fun e w' => e = .returned (.tuple #[.slice none 0 0, errA A 8]) ∧ Below w.heap.size w w' := by
  have HCK := hid (icheck_any Q L v A m w (by omega) sh S I)
  have HIS := hid (fun W (h : Below w.heap.size w W) => isSel_any sel sv W (hs.below h) (by omega))
  rw [h1] at HIS
  have HS := hid (fun W (h : Below w.heap.size w W) => S.below h)
  obtain ⟨a, c, hv, -⟩ := id I.es
  subst hv
  obtain ⟨sa, sc, hsv, -⟩ := id hs
  subst hsv
  clear S I hs sh h1
  go_enter Tryz.func34, Tryz.ntmps34
  go_wp2_with fail
  refine HCK.out.mono ?_
  rintro e w1 ⟨x, rfl, he, hb⟩
  have HB1 := hid hb
  rcases he.kind with ⟨_, rfl⟩ | ⟨h, _⟩
  · clear he hb HCK h0
    go_wp2_with fail
    refine (HIS.out _ HB1.out).mono ?_
    rintro e w2 ⟨rfl, hb⟩
    have HB2 := hid (HB1.out.trans (hb.mono HB1.out.size))
    have g7 := (HS.out _ HB2.out).sen.g7
    clear hb
    go_wp2_with fail
    go_quiet (fail)
    go_wp2_with fail
    go_ret2
    exact ⟨rfl, below_drawn_of HB2.out _⟩
  · exact absurd h0 h
set_option maxRecDepth 100000 in
set_option maxHeartbeats 4000000 in
theorem news_good (Q : List Raw) (L : List Ent) (sel : List Bm) (v sv : Value) (A : Nat → Addr) (m : Int) (w : World) (hn : L.length ≤ 1000) (hsn : sel.length ≤ 1000) (hz : ∀ r, r ∈ Q → r.1.1.size ≤ 80 ∧ r.1.2.size ≤ 80) (hsz : ∀ x, x ∈ sel → x.2.size < 999999) (sh : ∀ e, e ∈ L → ShE e) (S : Te w A m) (htab : Lib.TabIs Tryz.prog w powName .u64 Lib.pow10Tab) (I : Ixs w v Q L) (hs : MsAt w sv sel) (h0 : (chk Q L).1 = 0) (h1 : risB2 sel = true) :
    Calls Tryz.prog 34 #[v, sv] w fun e w' => ∃ u, e = .returned (.tuple #[u, .nilIface]) ∧ w'.ownsRow w.heap.size 51 2 u (newsL Q sel).length (flatM (newsL Q sel)) ∧ Below w.heap.size w w' := by
  have HCK := hid (icheck_any Q L v A m w (by omega) sh S I)
  have HIS := hid (fun W (h : Below w.heap.size w W) => isSel_any sel sv W (hs.below h) (by omega))
  rw [h1] at HIS
  have HLR := hid (fun W (h : Below w.heap.size w W) => latest_row Q sel v sv A m W (by rw [I.ln]; omega) hsn hz (S.below h) (tab_below htab h) (I.below h).es (hs.below h))
  have HLZ := hid (fun (hK : LatK Q sel) (x : Bm) (hx : x ∈ sel) => show (latV Q x.1).size < 999999 by
    obtain ⟨X, hX⟩ := hK x hx
    have := lat_sz (good_of I h0) hz hX
    omega)
  have HLS := hid (fun (s t : ByteArray) W (h : Below w.heap.size w W) (h1 : s.size < 999999) (h2 : t.size < 999999) => less_any s t (A 0) (A 1) m W h1 h2 (S.below h).vs)
  have HMS := hid (fun W (h : Below w.heap.size w W) => hs.below h)
  have HSZ := hid hsz
  have HSN := hid (show sel.length ≤ 1000000 by omega)
  have HSL := hid hsn
  obtain ⟨i0, hi0, hz0, hz1, hz2⟩ := info_parts infoMod
  obtain ⟨a, c, hv, -⟩ := id I.es
  subst hv
  obtain ⟨sa, sc, hsv, -⟩ := id hs
  subst hsv
  clear S I hs sh h1 htab hz hsz
  go_enter Tryz.func34, Tryz.ntmps34
  go_wp2_with fail
  refine HCK.out.mono ?_
  rintro e w1 ⟨x, rfl, he, hb⟩
  have HB1 := hid hb
  rcases he.kind with ⟨_, rfl⟩ | ⟨h, _⟩
  rotate_left
  · exact absurd h0 h
  clear he hb HCK h0
  go_wp2_with fail
  refine (HIS.out _ HB1.out).mono ?_
  rintro e w2 ⟨rfl, hb⟩
  have HB2 := hid (HB1.out.trans (hb.mono HB1.out.size))
  clear hb
  go_wp2_with fail
  refine (HLR.out _ HB2.out).mono ?_
  rintro e w3 ⟨lu, rfl, ho, hK, hb⟩
  have HB3 := hid (HB2.out.trans (hb.mono HB2.out.size))
  have HML := hid (own_ms ho)
  have HKZ := hid (HLZ.out hK)
  obtain ⟨la, lc, hlu⟩ := own_slN ho
  subst hlu
  clear hb ho hK HLR HIS HLZ
  have HYL := hid (latL_len Q sel)
  have HYG := hid (fun (i : Nat) (h : i < (latL Q sel).length) (h' : i < sel.length) => latL_get (Q := Q) h h')
  obtain ⟨Y, HY⟩ : ∃ Y, Hid (latL Q sel = Y) := ⟨_, hid rfl⟩
  rw [HY.out] at HML HYL HYG ⊢
  clear HY
  go_wp2_with fail
  go_loopw [7, 23] (fun ov iv wr => ∃ i : Nat, i ≤ Y.length ∧ iv = .int .i64 i ∧ Hid (wr.ownsRow w3.heap.size 51 2 ov (newsL Q (sel.take i)).length (flatM (newsL Q (sel.take i)))) ∧ Hid (Below w3.heap.size w3 wr)) (fun _ iv _ => Y.length - (intOf iv).toNat)
  case atStart => exact ⟨0, Nat.zero_le _, rfl, hid (World.ownsRow_nil _ _ _ _), hid (Below.refl _ _)⟩
  case round =>
    obtain ⟨i, hi, rfl, HOW, HBr⟩ := hrel
    have HBw := hid (HB3.out.trans (HBr.out.mono HB3.out.size))
    by_cases hlt : i < Y.length
    · have hls : i < sel.length := by rw [← HYL.out]; exact hlt
      have hiI := ix_lt hlt
      have hsI := ix_lt hls
      have hii := ix_pos i
      have HLI := hid hlt
      have HYM := hid (show Y.length ≤ 1000000 by rw [HYL.out]; exact HSN.out)
      obtain ⟨xb, xo, hxa, x0, x1⟩ := (HML.out.below HBr.out).cells hlt
      subst hxa
      obtain ⟨yb, yo, hya, y0, y1⟩ := (HMS.out _ HBw.out).cells hls
      subst hya
      rw [HYG.out i hlt hls] at x0 x1
      have HNX := hid (newsL_next (Q := Q) hls)
      have HPZ := hid (HKZ.out sel[i] (List.getElem_mem hls))
      have HQZ := hid (HSZ.out sel[i] (List.getElem_mem hls))
      have HNL := hid (show (newsL Q (sel.take i)).length ≤ 1000 from Nat.le_trans (newsL_len Q _) (Nat.le_trans (List.length_take_le' i sel) HSL.out))
      generalize sel[i] = x at *
      obtain ⟨p, q⟩ := x
      simp only at x0 x1 y0 y1 HNX HPZ HQZ
      generalize latV Q p = lv at *
      obtain ⟨SX, hSX⟩ : ∃ SX, newsL Q (sel.take i) = SX := ⟨_, rfl⟩
      rw [hSX] at HOW HNX HNL
      clear hSX hlt hls
      have HAl := hid ((Below.refl wr.heap.size wr).alloc (Nat.le_refl _) (.cells #[.string p, .string lv] 51))
      have HBa := hid (HBr.out.trans (HAl.out.mono HBr.out.size))
      have HBv := hid (HBw.out.trans (HAl.out.mono HBw.out.size))
      have HM0 := hid (heap_new wr (.cells #[.string p, .string lv] 51))
      have HOa := hid (HOW.out.alloc (.cells #[.string p, .string lv] 51))
      have HLP := hid (fun W (h : Below w.heap.size w W) => HLS.out q lv W h HQZ.out HPZ.out)
      replace y1 := cell_below HAl.out y1
      go_wp2_with fail
      obtain ⟨wa, hwa⟩ : ∃ wa, wr.alloc (.cells #[.string p, .string lv] 51) = wa := ⟨_, rfl⟩
      rw [hwa] at HAl HBa HBv HM0 HOa y1 ⊢
      clear hwa
      obtain ⟨m0, m1, mf⟩ := box2J HM0.out
      have HW := hid (fun W' (hW : Below wa.heap.size wa W') => HBv.out.trans (hW.mono HBv.out.size))
      have HT := hid (fun W' (hW : Below wa.heap.size wa W') => (show (fun W' => W'.cell? ⟨yb, yo + i * 2 + 1, none⟩ = some (.string q) ∧ W'.cell? ⟨wr.heap.size, 1, none⟩ = some (.string lv) ∧ Hid (Below wa.heap.size wa W')) W' from ⟨cell_below hW y1, cell_below hW m1, hid hW⟩))
      change Hid (newsL Q (sel.take (i + 1)) = SX ++ if lessB q.data.toList lv.data.toList then [(p, lv)] else []) at HNX
      cases hle : lessB q.data.toList lv.data.toList with
      | false =>
        rw [hle] at HLP HNX
        have HN2 := hid (show newsL Q (sel.take (i + 1)) = SX by rw [HNX.out]; simp)
        clear hle
        go_region_held (fun W' => W'.cell? ⟨yb, yo + i * 2 + 1, none⟩ = some (.string q) ∧ W'.cell? ⟨wr.heap.size, 1, none⟩ = some (.string lv) ∧ Hid (Below wa.heap.size wa W')) (first | exact HT.out _ HRa.out | exact HT.out _ (below_drawn _ 1)) (first
          | (go_at_call 16; refine (HLP.out _ (HW.out _ (below_drawn _ 1))).mono ?_; rintro e w4 ⟨rfl, hb⟩; have HRa := hid ((below_drawn wa 1).trans (hb.mono (Nat.le_refl _))); clear hb))
        all_goals
          have HB5 := hid (HBa.out.trans (HRa.out.mono HBa.out.size))
          have HO5 := hid (owns_below HOa.out HRa.out)
          go_wp2_with fail
          go_roundw
          case rel => first | exact ⟨i + 1, HLI.out, nr_idx i, hid (by rw [HN2.out]; exact HO5.out), HB5⟩ | exact ⟨i + 1, HLI.out, nx_idx HLI.out HYM.out, hid (by rw [HN2.out]; exact HO5.out), HB5⟩
          case measure => first | exact nr_meas HLI.out | exact nx_meas HLI.out HYM.out
      | true =>
        rw [hle] at HLP HNX
        have HN2 := hid (show newsL Q (sel.take (i + 1)) = SX ++ [(p, lv)] by rw [HNX.out]; simp)
        clear hle
        go_region_held (fun W' => W'.cell? ⟨yb, yo + i * 2 + 1, none⟩ = some (.string q) ∧ W'.cell? ⟨wr.heap.size, 1, none⟩ = some (.string lv) ∧ Hid (Below wa.heap.size wa W')) (first | exact HT.out _ HRa.out | exact HT.out _ (below_drawn _ 1)) (first
          | (go_at_call 16; refine (HLP.out _ (HW.out _ (below_drawn _ 1))).mono ?_; rintro e w4 ⟨rfl, hb⟩; have HRa := hid ((below_drawn wa 1).trans (hb.mono (Nat.le_refl _))); clear hb))
        all_goals
          have HB5 := hid (HBa.out.trans (HRa.out.mono HBa.out.size))
          have HO5 := hid (owns_below HOa.out HRa.out)
          have n0 := cell_below HRa.out m0
          have n1 := cell_below HRa.out m1
          clear m0 m1 mf
          go_wp2_with (at_builtin; refine wpList_append_own _ rfl _ _ 52 rfl w3.heap.size 51 i0 _ 2 32 Tryz.underlying52 hi0 hz0 hz1 hz2 rfl (by decide) _ _ _ rfl (HO5.out.alloc _) ⟨w4.heap.size, 0, none⟩ 1 1 [.string p, .string lv] rfl rfl (World.news_of_block (heap_new _ _)) (by intro u hu; simp at hu; rcases hu with rfl | rfl <;> rfl) (Nat.le_trans (Nat.add_le_add_right HNL.out 1) (by unfold maxLen; decide)) (by have hz := HNL.out; omega) (Nat.le_trans HB5.out.size (by simp)) ?_)
          intro v' w6 hown hgrow _
          have HB6 := hid (rel_app2 HB5.out.size HB5.out HO5.out (Below.refl _ _) hgrow)
          have HO6 := hid (show w6.ownsRow w3.heap.size 51 2 v' (SX ++ [(p, lv)]).length (flatM (SX ++ [(p, lv)])) by rw [List.length_append, flatM_app]; exact hown)
          clear hown hgrow
          go_wp2_with fail
          go_roundw
          case rel => first | exact ⟨i + 1, HLI.out, nr_idx i, hid (by rw [HN2.out]; exact HO6.out), HB6⟩ | exact ⟨i + 1, HLI.out, nx_idx HLI.out HYM.out, hid (by rw [HN2.out]; exact HO6.out), HB6⟩
          case measure => first | exact nr_meas HLI.out | exact nx_meas HLI.out HYM.out
    · have hiI := ix_nlt hlt
      have HTA := hid (show sel.take i = sel from List.take_of_length_le (by have := HYL.out; omega))
      rw [HTA.out] at HOW
      have HOF := hid (own_base HOW.out HB3.out.size)
      obtain ⟨oa, oc, hov⟩ := own_slN HOW.out
      subst hov
      clear hlt
      go_wp2_with fail
      go_ret2
      exact ⟨_, rfl, HOF.out, HBw.out⟩
end Ve
end Go.Proofs.YtanponneancajaaGreatDoor


namespace Go.Proofs.YtanponneancajaaGreatDoor
open Go.RowKit Go.Maps
namespace Ve
theorem bX_of {w : World} {v : Value} {Q : List Raw} {L : List Ent} {roots D E : List Bm} (I : Ixs w v Q L) (h : (chkG Q L roots).1 = 0) (hD : ∀ m, Rch (reqQ Q L) roots m ↔ m ∈ D) (j : Jn D E) : bX Q L roots = E :=
  (bX_jn Q L roots).one j (fun m _ => by rw [rX_mem I h, hD])
theorem sm_r0 (g : Nat) : reqQ (smQ g) smL ma0 = [] := by kernel_rfl
theorem sm_chkG3 (g : Nat) : (chkG (smQ g) smL [ma0]).1 = 0 := by
  rw [chkG_ok (by rw [sm_chk])]
  show codeE (nonE (smQ g) [ma0]) 1 = 0
  kernel_rfl
theorem sm_chkG4 (g : Nat) : (chkG (smQ g) smL [ma1, mb0, ma1, mb0]).1 = 0 := by
  rw [chkG_ok (by rw [sm_chk])]
  show codeE (nonE (smQ g) [ma1, mb0, ma1, mb0]) 4 = 0
  kernel_rfl
theorem rch_sm {g : Nat} {R D : List Bm} (hR : ∀ m, m ∈ R → m ∈ D) (hD : ∀ p, p ∈ D → ∀ m, m ∈ reqQ (smQ g) smL p → m ∈ D) {m : Bm} (h : Rch (reqQ (smQ g) smL) R m) : m ∈ D := by
  induction h with
  | root hr => exact hR _ hr
  | step _ hr ih => exact hD _ ih _ hr
theorem sm_in {g : Nat} {p m : Bm} (hp : p ∈ [ma0, ma1, mb0]) (hm : m ∈ reqQ (smQ g) smL p) : p = ma1 ∧ m = mb0 := by
  rcases List.mem_cons.1 hp with rfl | hp
  · rw [sm_r0] at hm; cases hm
  · rcases List.mem_cons.1 hp with rfl | hp
    · rw [sm_r1] at hm; exact ⟨rfl, List.mem_singleton.1 hm⟩
    · rw [List.mem_singleton.1 hp, sm_rb] at hm; cases hm
theorem ma0_ne : ma0 ≠ ma1 := fun e => absurd (congrArg (fun m : Bm => m.2.data) e) (by decide)
theorem rch0 {g : Nat} (m : Bm) : Rch (reqQ (smQ g) smL) [ma0] m ↔ m ∈ [ma0] := by
  refine ⟨fun h => rch_sm (fun _ h => h) (fun p hp m hm => ?_) h, fun h => .root h⟩
  have := List.mem_singleton.1 hp
  subst this
  exact absurd (sm_in (by simp) hm).1 ma0_ne
theorem rch1 {g : Nat} (m : Bm) : Rch (reqQ (smQ g) smL) [ma0, ma1] m ↔ m ∈ [ma0, ma1, mb0] := by
  refine ⟨fun h => rch_sm (fun m h => ?_) (fun p hp m hm => ?_) h, fun h => ?_⟩
  · rcases List.mem_cons.1 h with rfl | h
    · simp
    · rw [List.mem_singleton.1 h]; simp
  · rw [(sm_in hp hm).2]; simp
  · rcases List.mem_cons.1 h with rfl | h
    · exact .root (by simp)
    · rcases List.mem_cons.1 h with rfl | h
      · exact .root (by simp)
      · rw [List.mem_singleton.1 h]
        exact .step (.root (show ma1 ∈ [ma0, ma1] by simp)) (by rw [sm_r1]; simp)
theorem rch2 {g : Nat} (m : Bm) : Rch (reqQ (smQ g) smL) [ma1, mb0, ma1, mb0] m ↔ m ∈ [ma1, mb0] := by
  refine ⟨fun h => rch_sm (fun m h => ?_) (fun p hp m hm => ?_) h, fun h => .root ?_⟩
  · have h3 : m = ma1 ∨ m = mb0 ∨ m = ma1 ∨ m = mb0 := by simpa using h
    rcases h3 with rfl | rfl | rfl | rfl <;> simp
  · rw [(sm_in (List.mem_cons_of_mem _ hp) hm).2]; simp
  · rcases List.mem_cons.1 h with rfl | h
    · simp
    · rw [List.mem_singleton.1 h]; simp
theorem sm_m0 : mErr ma0 = 0 := by kernel_rfl
theorem sm_m1 : mErr ma1 = 0 := by kernel_rfl
theorem sm_mb : mErr mb0 = 0 := by kernel_rfl
theorem jn0 : Jn [ma0] [ma0] := ⟨List.pairwise_singleton _ _, fun e he => ⟨he, by rw [List.mem_singleton.1 he]; exact sm_m0⟩, fun x hx _ => ⟨x, hx, rfl, by rw [List.mem_singleton.1 hx]; exact ordV_selfJ sm_m0⟩⟩
theorem jn2 : Jn [ma1, mb0] [ma1, mb0] := by
  refine ⟨sm_jn.ri, fun e he => ⟨he, (sm_jn.sub e he).2⟩, fun x hx h0 => ⟨x, hx, rfl, ordV_selfJ h0⟩⟩
theorem sm_ordA : ordV ma0.2.data.toList ma1.2.data.toList < 0 := of_decide_eq_true (by kernel_rfl)
theorem sm_keptA (g : Nat) : KeptT (smQ g) ma0.1 [ma0.2, ma1.2] := by
  have e : verL (bestR (ofP ma0.1 (smQ g))) = [ma0.2, ma1.2] := by kernel_rfl
  unfold KeptT
  rw [e]
  refine ⟨List.pairwise_cons.2 ⟨fun t ht => ?_, List.pairwise_singleton _ _⟩, fun t => ⟨fun ht => ⟨ht, ?_⟩, fun ht => ht.1⟩⟩
  · rw [List.mem_singleton.1 ht]; exact sm_ordA
  · have : t = ma0.2.data.toList ∨ t = ma1.2.data.toList := by simpa [bl] using ht
    rcases this with rfl | rfl
    · exact (mErr_zero sm_m0).2
    · exact (mErr_zero sm_m1).2
theorem sm_keptB (g : Nat) : KeptT (smQ g) mb0.1 [mb0.2] := by
  have e : verL (bestR (ofP mb0.1 (smQ g))) = [mb0.2] := by kernel_rfl
  unfold KeptT
  rw [e]
  refine ⟨List.pairwise_singleton _ _, fun t => ⟨fun ht => ⟨ht, ?_⟩, fun ht => ht.1⟩⟩
  have : t = mb0.2.data.toList := by simpa [bl] using ht
  rw [this]
  exact (mErr_zero sm_mb).2
theorem sm_latA (g : Nat) : latV (smQ g) ma0.1 = ma1.2 := (latV_of (sm_keptA g)).symm.trans rfl
theorem sm_latB (g : Nat) : latV (smQ g) mb0.1 = mb0.2 := (latV_of (sm_keptB g)).symm.trans rfl
theorem sm_up0 {w : World} {v : Value} {g : Nat} (I : Ixs w v (smQ g) smL) : bX (smQ g) smL [ma0] = [ma0] := bX_of I (sm_chkG3 g) rch0 jn0
theorem sm_up1 {w : World} {v : Value} {g : Nat} (I : Ixs w v (smQ g) smL) : upF (smQ g) smL [ma0] = [ma1, mb0] := by
  have e : [ma0] ++ latL (smQ g) [ma0] = [ma0, ma1] := by
    show [ma0, (ma0.1, latV (smQ g) ma0.1)] = [ma0, ma1]
    rw [sm_latA]; rfl
  unfold upF
  rw [e]
  exact bX_of I (sm_chkG2 g) rch1 sm_jn
theorem sm_up2 {w : World} {v : Value} {g : Nat} (I : Ixs w v (smQ g) smL) : upF (smQ g) smL [ma1, mb0] = [ma1, mb0] := by
  have e : [ma1, mb0] ++ latL (smQ g) [ma1, mb0] = [ma1, mb0, ma1, mb0] := by
    show [ma1, mb0, (ma1.1, latV (smQ g) ma0.1), (mb0.1, latV (smQ g) mb0.1)] = [ma1, mb0, ma1, mb0]
    rw [sm_latA, sm_latB]
  unfold upF
  rw [e]
  exact bX_of I (sm_chkG4 g) rch2 jn2
theorem sm_fix {w : World} {v : Value} {g : Nat} (I : Ixs w v (smQ g) smL) : Fix (smQ g) smL (bX (smQ g) smL [ma0]) [ma1, mb0] :=
  ⟨⟨1, by show [ma1, mb0] = upF (smQ g) smL (bX (smQ g) smL [ma0]); rw [sm_up0 I, sm_up1 I]⟩, sm_up2 I⟩
theorem sm_sz (g : Nat) : ∀ r, r ∈ smQ g → r.1.1.size ≤ 80 ∧ r.1.2.size ≤ 80 := fun r hr => by
  have : r = (ma0, .slice none 0 0, .slice none 0 0, false) ∨ r = (ma1, .slice (some ⟨g, 0, none⟩) 1 1, .slice none 0 0, false) ∨ r = (mb0, .slice none 0 0, .slice none 0 0, false) := by simpa [smQ] using hr
  rcases this with rfl | rfl | rfl
  · exact ⟨show ma0.1.size ≤ 80 by decide, show ma0.2.size ≤ 80 by decide⟩
  · exact ⟨show ma1.1.size ≤ 80 by decide, show ma1.2.size ≤ 80 by decide⟩
  · exact ⟨show mb0.1.size ≤ 80 by decide, show mb0.2.size ≤ 80 by decide⟩
set_option maxRecDepth 100000 in
set_option maxHeartbeats 4000000 in
theorem upped_any (A : Nat → Addr) (m : Int) (w : World) (S : Te w A m) (htab : Lib.TabIs Tryz.prog w powName .u64 Lib.pow10Tab) : Calls Tryz.prog 28 #[] w fun e w' => e = .returned (.bool true) ∧ Below w.heap.size w w' := by
  have HSM := hid smallI_any
  have HS := hid S
  have HT := hid htab
  clear S htab
  go_enter Tryz.func28, Tryz.ntmps28
  go_wp2_with fail
  refine (HSM.out w).mono ?_
  rintro e w1 ⟨g, q, rfl, hix, hb⟩
  have hBa := (Below.refl w1.heap.size w1).alloc (Nat.le_refl _) (.cells #[.string ⟨#[97]⟩, .string ⟨#[118, 49, 46, 48, 46, 48]⟩] 51)
  have hB1 := hb.trans (hBa.mono hb.size)
  have hms : MsAt (w1.alloc (.cells #[.string ⟨#[97]⟩, .string ⟨#[118, 49, 46, 48, 46, 48]⟩] 51)) (.slice (some ⟨w1.heap.size, 0, none⟩) 1 1) [ma0] := ms_single (x := ma0) (heap_new w1 _)
  have HAL := hid (all_good (smQ g) smL [ma0] _ _ A m _ (by decide) (by decide) (sm_sz g) sm_sh (HS.out.below hB1) (tab_below HT.out hB1) (hix.below hBa) hms (sm_chkG3 g))
  have HFX := hid (sm_fix hix)
  have HB1 := hid hB1
  clear hix hb hBa hms hB1
  go_wp2_with fail
  refine HAL.out.mono ?_
  rintro e w2 ⟨ua, uc, E, rfl, hM, hR⟩
  have hE := hR.fx.one HFX.out
  subst hE
  have HB2 := hid (HB1.out.trans (hM.1.mono HB1.out.size))
  obtain ⟨_, ua', uc', he, huc, hk⟩ := hM
  injection he with he1 he2 he3
  subst he1 he3
  obtain ⟨ug, rfl, hmw⟩ : ∃ g, ua = some ⟨g, 0, none⟩ ∧ Mw _ w2 g [ma1, mb0] := by
    rcases hk with ⟨h, _⟩ | h
    · cases h
    · exact h
  have k1 : w2.cell? ⟨ug, 1, none⟩ = some (.string ⟨#[118, 49, 46, 49, 46, 48]⟩) := hmw.c1 0 (by decide)
  have s1 : ((⟨#[118, 49, 46, 49, 46, 48]⟩ : ByteArray).toList == (⟨#[118, 49, 46, 49, 46, 48]⟩ : ByteArray).toList) = true := by simp
  rw [show ([ma1, mb0] : List Bm).length = 2 from rfl]
  clear hR hk hmw HAL he2 huc HFX
  go_wp2_with fail
  go_ret
  exact ⟨rfl, HB2.out⟩end Ve
end Go.Proofs.YtanponneancajaaGreatDoor


namespace Go.Proofs.YtanponneancajaaGreatDoor
open Go.RowKit Go.Maps
namespace Ve
theorem lik_lat {Q : List Raw} (g : Good Q) {t : ByteArray} {X Y : List ByteArray} (hK : Kept (verL (ofP t Q)) (verL (ofP t Q)).length X) (hY : KeptT Q t Y) : (likN Q t X X.length).1 = latV Q t := by
  rw [← latV_of hY]
  by_cases h0 : X.length = 0
  · have hX : X = [] := List.eq_nil_of_length_eq_zero h0
    subst hX
    have hne : ofP t Q = [] := by
      rw [List.eq_nil_iff_forall_not_mem]
      intro r hr
      have := kept_in g ofP_sub hK hr
      cases this
    have hb : bestR (ofP t Q) = [] := by rw [hne]; rfl
    cases hYc : Y with
    | nil => rfl
    | cons y s =>
      obtain ⟨r, hr, _⟩ := kept_has g (R := bestR (ofP t Q)) (fun r hr => ofP_sub r (bestR_sub hr)) hY (x := y) (by rw [hYc]; simp)
      rw [hb] at hr; cases hr
  · obtain ⟨j, hj, _, hs, h1, h2⟩ := (likN_is (Q := Q) (t := t) (X := X) X.length (Nat.le_refl _)).p (by omega)
    rw [hs]
    obtain ⟨r, hr, er⟩ := kept_has g ofP_sub hK (List.getElem_mem hj)
    have hrq := g.ofP_mem.1 hr
    have hrank : ∀ s, s ∈ ofP t Q → rkV Q t s.1.2 = rnk s := fun s hs => by
      have h := g.ofP_mem.1 hs
      rw [← h.2]; exact rkV_at g h.1
    have hbest : r ∈ bestR (ofP t Q) := (rnk_best g ofP_sub hr).2 fun s hs => by
      have hin := kept_in g ofP_sub hK hs
      obtain ⟨k, hk, e⟩ := List.getElem_of_mem hin
      have := h1 k hk hk
      rw [e, hrank s hs, ← er, hrank r hr] at this
      exact this
    have hne : bestR (ofP t Q) ≠ [] := List.ne_nil_of_mem hbest
    have hsub : ∀ r, r ∈ bestR (ofP t Q) → r ∈ Q := fun r hr => ofP_sub r (bestR_sub hr)
    obtain ⟨⟨q, hq, eq⟩, hmax⟩ := kept_last g hsub hne hY
    have hqv := g.ver q (hsub q hq)
    have hrv := g.ver r hrq.1
    have hqX := kept_in g ofP_sub hK (bestR_sub hq)
    obtain ⟨k, hk, ek⟩ := List.getElem_of_mem hqX
    have hqr : rkV Q t X[j] ≤ rkV Q t X[k] := by
      rw [ek, ← er, hrank r hr, hrank q (bestR_sub hq)]
      exact (rnk_best g ofP_sub (bestR_sub hq)).1 hq r hr
    have hkj : ¬ j < k := fun h => by have := h2 k hk hk h; omega
    have ho1 : ¬ ordV X[j].data.toList X[k].data.toList < 0 := fun h => by
      rcases Nat.lt_or_ge k j with h3 | h3
      · have hr := hK.1
        unfold rises at hr
        have hbl : (bl X).length = X.length := bl_len X
        have h4 := List.pairwise_iff_getElem.1 hr k j (by omega) (by omega) h3
        have g1 : (bl X)[k]'(by omega) = X[k].data.toList := by simp [bl]
        have g2 : (bl X)[j]'(by omega) = X[j].data.toList := by simp [bl]
        rw [g1, g2] at h4
        exact ordV_irr h h4
      · have : k = j := by omega
        subst this; exact ordV_irr h h
    have ho2 := hmax r hbest
    rw [← eq, ← ek] at ho2
    rw [er] at ho2
    have h0' : ordV X[j].data.toList X[k].data.toList = 0 := by
      rw [ordV_swap X[j].data.toList X[k].data.toList] at ho2
      omega
    have hvj : verErr X[j].data.toList = 0 := by rw [← er]; exact hrv
    have hvk : verErr X[k].data.toList = 0 := by rw [ek]; exact hqv
    have := str_ext ((ordV_zero hvj hvk).1 h0')
    rw [this, ek, eq]
end Ve
end Go.Proofs.YtanponneancajaaGreatDoor


namespace Go.Proofs.YtanponneancajaaGreatDoor
open Go.RowKit Go.Maps
namespace Ve
theorem es_modK {W : World} {b o n c : Nat} {Q : List Raw} (h : EsAt W (.slice (some ⟨b, o, none⟩) n c) Q) {k : Nat} (hk : k < Q.length) : W.cell? ⟨b, o + k * 5, none⟩ = some (.string Q[k].1.1) ∧ W.cell? ⟨b, o + k * 5 + 1, none⟩ = some (.string Q[k].1.2) := by
  obtain ⟨a', c', e, _, _, h⟩ := h
  injection e with e1 e2 e3
  subst e1
  obtain ⟨b', o', e4, h4⟩ := h (by intro h0; rw [h0] at hk; simp at hk)
  injection e4 with e4
  injection e4 with e5 e6
  subst e5 e6
  exact ⟨(h4 k hk).1, (h4 k hk).2.1⟩
theorem es_backK {W : World} {b o n c : Nat} {Q : List Raw} (h : EsAt W (.slice (some ⟨b, o, none⟩) n c) Q) {k : Nat} (hk : k < Q.length) : W.cell? ⟨b, o + k * 5 + 4, none⟩ = some (.bool Q[k].2.2.2) := by
  obtain ⟨a', c', e, _, _, h⟩ := h
  injection e with e1 e2 e3
  subst e1
  obtain ⟨b', o', e4, h4⟩ := h (by intro h0; rw [h0] at hk; simp at hk)
  injection e4 with e4
  injection e4 with e5 e6
  subst e5 e6
  exact (h4 k hk).2.2.2.2
theorem sortVers_nil (a : Option Addr) (c : Nat) (w : World) : Calls Tryz.prog 178 #[.slice a 0 c] w fun e w' => e = .returned (.slice none 0 0) ∧ Below w.heap.size w w' := by
  go_enter Tryz.func178, Tryz.ntmps178
  go_wp2_with fail
  go_loopw [3, 4] (fun v i wr => v = .slice none 0 0 ∧ i = .int .i64 0 ∧ wr = w) (fun _ i _ => 0)
  case atStart => exact ⟨rfl, rfl, rfl⟩
  case round =>
    obtain ⟨rfl, rfl, rfl⟩ := hrel
    go_wp2_with fail
    go_ret
    exact ⟨rfl, Below.refl _ _⟩
def pthR (t : ByteArray) (Q : List Raw) : List Raw := Q.filter fun r => decide (r.1.1 = t)
theorem pthR_yes {t : ByteArray} {Q : List Raw} {k : Nat} (h : k < Q.length) (he : Q[k].1.1 = t) : verL (pthR t (Q.take (k + 1))) = verL (pthR t (Q.take k)) ++ [Q[k].1.2] := by
  unfold pthR verL
  rw [List.take_succ_eq_append_getElem h, List.filter_append, List.map_append]
  simp [he]
theorem pthR_no {t : ByteArray} {Q : List Raw} {k : Nat} (h : k < Q.length) (he : ¬ Q[k].1.1 = t) : verL (pthR t (Q.take (k + 1))) = verL (pthR t (Q.take k)) := by
  unfold pthR verL
  rw [List.take_succ_eq_append_getElem h, List.filter_append, List.map_append]
  simp [he]
theorem pthR_len (t : ByteArray) (Q : List Raw) : (verL (pthR t Q)).length ≤ Q.length := by
  unfold pthR verL
  rw [List.length_map]
  exact List.length_filter_le _ _
theorem pthR_sz {t : ByteArray} {Q : List Raw} (hz : ∀ r, r ∈ Q → r.1.1.size ≤ 80 ∧ r.1.2.size ≤ 80) : ∀ x, x ∈ verL (pthR t Q) → x.size ≤ 80 := fun x hx => by
  obtain ⟨r, hr, rfl⟩ := List.mem_map.1 hx
  exact (hz r (List.mem_filter.1 hr).1).2
set_option maxRecDepth 100000 in
set_option maxHeartbeats 4000000 in
theorem versOf_any (Q : List Raw) (t : ByteArray) (v : Value) (w : World) (hL : Q.length ≤ 1000) (hz : ∀ r, r ∈ Q → r.1.1.size ≤ 80 ∧ r.1.2.size ≤ 80) (hv : EsAt w v Q) :
    Calls Tryz.prog 129 #[v, .string t] w fun e w' => ∃ u X, e = .returned u ∧ TxAt w' u X ∧ Kept (verL (pthR t Q)) (verL (pthR t Q)).length X ∧ Below w.heap.size w w' := by
  have HV := hid (fun W (h : Below w.heap.size w W) => hv.below h)
  have HQM := hid (show Q.length ≤ 1000000 by omega)
  have HQL := hid hL
  have HSO := hid (fun (L : List ByteArray) b o c W (hc : ∀ j (h : j < L.length), W.cell? ⟨b, o + j, none⟩ = some (.string L[j])) (h12 : L.length ≤ 1000) (hz : ∀ x, x ∈ L → x.size ≤ 80) => sortVers_some b o c L W hc h12 hz)
  have HSN := hid sortVers_nil
  have HZZ := hid (pthR_sz (t := t) hz)
  have HZL := hid (show (verL (pthR t Q)).length ≤ 1000 from Nat.le_trans (pthR_len t Q) hL)
  obtain ⟨i0, hi0, hz0, hz1, hz2⟩ := info_parts infoStr
  obtain ⟨va, vc, hv1, -⟩ := id hv
  subst hv1
  clear hv hz hL
  go_enter Tryz.func129, Tryz.ntmps129
  go_wp2_with fail
  go_loopw [5, 6] (fun ov iv wr => ∃ i : Nat, i ≤ Q.length ∧ iv = .int .i64 i ∧ Hid (wr.ownsRow w.heap.size 9 1 ov (verL (pthR t (Q.take i))).length ((verL (pthR t (Q.take i))).map Value.string)) ∧ Hid (Below w.heap.size w wr)) (fun _ iv _ => Q.length - (intOf iv).toNat)
  case atStart => exact ⟨0, Nat.zero_le _, rfl, hid (World.ownsRow_nil _ _ _ _), hid (Below.refl _ _)⟩
  case round =>
    obtain ⟨i, hi, rfl, HOW, HBr⟩ := hrel
    by_cases hlt : i < Q.length
    · have hiI := ix_lt hlt
      have hii := ix_pos i
      have HLI := hid hlt
      obtain ⟨eb, eo, hea, -⟩ := es_cells (HV.out _ HBr.out) hlt
      subst hea
      obtain ⟨y0, y1⟩ := es_modK (HV.out _ HBr.out) hlt
      have HYS := hid (fun he => pthR_yes (t := t) hlt he)
      have HNO := hid (fun he => pthR_no (t := t) hlt he)
      have HLN := hid (show (verL (pthR t (Q.take i))).length ≤ 1000 from Nat.le_trans (pthR_len t _) (Nat.le_trans (List.length_take_le' i Q) HQL.out))
      generalize Q[i] = r at *
      obtain ⟨⟨p, q⟩, r2⟩ := r
      simp only at y0 y1 HYS HNO
      obtain ⟨SX, hSX⟩ : ∃ SX, verL (pthR t (Q.take i)) = SX := ⟨_, rfl⟩
      rw [hSX] at HOW HYS HNO HLN
      clear hSX hlt
      by_cases he : p = t
      · subst he
        have HST := hid (HYS.out rfl)
        have heq := str_refl p
        clear HYS HNO
        go_wp2_with (at_builtin; refine wpList_append_own _ rfl _ _ 24 rfl w.heap.size 9 i0 _ 1 16 Tryz.underlying24 hi0 hz0 hz1 hz2 rfl (by decide) _ _ _ rfl (HOW.out.alloc _) ⟨wr.heap.size, 0, none⟩ 1 1 [.string q] rfl rfl (World.news_of_block (heap_new _ _)) (by intro u hu; simp at hu; subst hu; rfl) (Nat.le_trans (Nat.add_le_add_right HLN.out 1) (by unfold maxLen; decide)) (by have hz := HLN.out; omega) (Nat.le_trans HBr.out.size (by simp)) ?_)
        intro v' w6 hown hgrow _
        have HB6 := hid (rel_app HBr.out.size HBr.out HOW.out (Below.refl _ _) hgrow)
        have HO6 := hid (show w6.ownsRow w.heap.size 9 1 v' (SX ++ [q]).length ((SX ++ [q]).map Value.string) by rw [List.length_append, List.map_append]; exact hown)
        clear hown hgrow
        go_wp2_with fail
        go_roundw
        case rel => first | exact ⟨i + 1, HLI.out, nr_idx i, hid (by rw [HST.out]; exact HO6.out), HB6⟩ | exact ⟨i + 1, HLI.out, nx_idx HLI.out HQM.out, hid (by rw [HST.out]; exact HO6.out), HB6⟩
        case measure => first | exact nr_meas HLI.out | exact nx_meas HLI.out HQM.out
      · have HST := hid (HNO.out he)
        have heq := str_ne he
        clear HYS HNO he
        go_wp2_with fail
        go_roundw
        case rel => first | exact ⟨i + 1, HLI.out, nr_idx i, hid (by rw [HST.out]; exact HOW.out), HBr⟩ | exact ⟨i + 1, HLI.out, nx_idx HLI.out HQM.out, hid (by rw [HST.out]; exact HOW.out), HBr⟩
        case measure => first | exact nr_meas HLI.out | exact nx_meas HLI.out HQM.out
    · have hiI := ix_nlt hlt
      have HTA := hid (show Q.take i = Q from List.take_of_length_le (by omega))
      rw [HTA.out] at HOW
      obtain ⟨Z, HZ⟩ : ∃ Z, Hid (verL (pthR t Q) = Z) := ⟨_, hid rfl⟩
      rw [HZ.out] at HOW HZZ HZL
      clear hlt HTA
      obtain ⟨oa, oc, hov, -, hcell⟩ := own_tx HOW.out
      subst hov
      by_cases hZ : Z = []
      · subst hZ
        have HS0 := hid (HSN.out oa oc wr)
        go_wp2_with fail
        refine HS0.out.mono ?_
        rintro e w7 ⟨rfl, hb⟩
        have HB7 := hid (HBr.out.trans (hb.mono HBr.out.size))
        clear hb
        go_wp2_with fail
        go_ret
        refine ⟨_, [], rfl, ⟨none, 0, rfl, Nat.le_refl _, fun h => absurd rfl h⟩, ?_, HB7.out⟩
        rw [HZ.out]
        exact ⟨List.Pairwise.nil, fun t => by simp [bl]⟩
      · obtain ⟨ob, oo, hoa, hcl⟩ := hcell hZ
        subst hoa
        have HS0 := hid (HSO.out Z ob oo oc wr hcl HZL.out HZZ.out)
        clear hcl hcell
        go_wp2_with fail
        refine HS0.out.mono ?_
        rintro e w7 ⟨u7, X, rfl, ho, hK, hb⟩
        have HB7 := hid (HBr.out.trans (hb.mono HBr.out.size))
        have HK7 := hid hK
        have HT7 := hid (own_tx ho)
        obtain ⟨ua, uc, hu7⟩ := own_slN ho
        subst hu7
        clear hb hK ho
        go_wp2_with fail
        go_ret
        exact ⟨_, X, rfl, HT7.out, by rw [HZ.out]; exact HK7.out, HB7.out⟩
set_option maxRecDepth 100000 in
set_option maxHeartbeats 4000000 in
theorem rank_any (Q : List Raw) (t s : ByteArray) (k : Nat) (v : Value) (w : World) (hL : Q.length ≤ 1000) (hs : s.size < 999999) (hk : k < Q.length) (hi : idxOf (isM (t, s)) Q = (k : Int)) (hq : Q[k].1.2 = s) (he : verErr s.data.toList = 0) (hv : EsAt w v Q) :
    Calls Tryz.prog 177 #[v, .string t, .string s] w fun e w' => e = .returned (.int .i64 (rnk Q[k] : Nat)) ∧ Below w.heap.size w w' := by
  have HFO := hid (findOf_allJ Q (t, s) v w (by omega) hv)
  rw [hi] at HFO
  have HV := hid (fun W (h : Below w.heap.size w W) => hv.below h)
  have HVO := hid (fun W => verOf_any s W (by omega))
  have HRN := hid (show rnk Q[k] = if Q[k].2.2.2 then 0 else if 0 < (preOf s.data.toList).length then 1 else 2 by unfold rnk; rw [hq])
  have hkI := ix_lt hk
  have hk0 := ix_pos k
  obtain ⟨va, vc, hv1, -⟩ := id hv
  subst hv1
  obtain ⟨eb, eo, hea, -⟩ := es_cells hv hk
  subst hea
  have HBK := hid (fun W (h : Below w.heap.size w W) => es_backK (HV.out W h) hk)
  have HE := hid he
  generalize rnk Q[k] = z at *
  generalize (Q[k]'hk).2.2.2 = bk at *
  clear hv hi hq he hk
  go_enter Tryz.func177, Tryz.ntmps177
  go_wp2_with fail
  refine HFO.out.mono ?_
  rintro e w1 ⟨rfl, hb⟩
  have HB1 := hid hb
  have c0 := HBK.out w1 hb
  clear hb HFO
  cases bk with
  | true =>
    go_wp2_with fail
    go_ret
    exact ⟨by rw [HRN.out]; rfl, HB1.out⟩
  | false =>
    go_wp2_with fail
    refine (HVO.out w1).mono ?_
    rintro e w2 ⟨h | ⟨_, sa, cap, X2, rfl, hbl, -⟩, hb⟩
    · exact absurd HE.out h.1
    · have HB2 := hid (HB1.out.trans (hb.mono HB1.out.size))
      have HBL := hid (show X2.length = (preOf s.data.toList).length by rw [← hbl]; simp [bl])
      have HB3 := hid (HB2.out.alloc HB2.out.size (.cells #[.int .i64 (nAt s.data.toList 0), .int .i64 (nAt s.data.toList 1), .int .i64 (nAt s.data.toList 2), .slice sa X2.length cap] 26))
      clear hb hbl
      by_cases hp : 0 < X2.length
      · have hpI : (0 : Int) < (X2.length : Int) := by omega
        have HZ := hid (show z = 1 by rw [HRN.out, if_neg (by simp), if_pos (by rw [← HBL.out]; exact hp)])
        clear hp
        go_wp2_with fail
        go_ret
        exact ⟨by rw [HZ.out]; rfl, HB3.out⟩
      · have hpI : ¬ (0 : Int) < (X2.length : Int) := by omega
        have HZ := hid (show z = 2 by rw [HRN.out, if_neg (by simp), if_neg (by rw [← HBL.out]; exact hp)])
        clear hp
        go_wp2_with fail
        go_ret
        exact ⟨by rw [HZ.out]; rfl, HB3.out⟩
end Ve
end Go.Proofs.YtanponneancajaaGreatDoor


namespace Go.Proofs.YtanponneancajaaGreatDoor
open Go.RowKit Go.Maps
namespace Ve
theorem tx_cellK {W : World} {a : Option Addr} {n c : Nat} {X : List ByteArray} (h : TxAt W (.slice a n c) X) {k : Nat} (hk : k < X.length) : ∃ b o, a = some ⟨b, o, none⟩ ∧ W.cell? ⟨b, o + k, none⟩ = some (.string X[k]) := by
  obtain ⟨a', c', e, _, h⟩ := h
  injection e with e1 e2 e3
  subst e1
  obtain ⟨b', o', e4, h4⟩ := h (by intro h0; rw [h0] at hk; simp at hk)
  exact ⟨b', o', e4, h4 k hk⟩
theorem nodup_sub {α : Type} [DecidableEq α] : ∀ {a b : List α}, a.Nodup → (∀ x, x ∈ a → x ∈ b) → a.length ≤ b.length
  | [], b, _, _ => Nat.zero_le _
  | x :: r, b, hn, hs => by
    obtain ⟨h1, h2⟩ := List.nodup_cons.1 hn
    have hx := hs x (List.mem_cons_self ..)
    have := nodup_sub (a := r) (b := b.erase x) h2 fun y hy => (List.mem_erase_of_ne (fun e => h1 (by rw [← e]; exact hy))).2 (hs y (List.mem_cons_of_mem _ hy))
    rw [List.length_erase_of_mem hx] at this
    have hp := List.length_pos_of_mem hx
    simp only [List.length_cons]
    omega
structure VerOk (Q : List Raw) (t : ByteArray) (X : List ByteArray) : Prop where
  at_ : ∀ j (hj : j < X.length), ∃ k, ∃ hk : k < Q.length, idxOf (isM (t, X[j])) Q = (k : Int) ∧ Q[k].1.2 = X[j] ∧ verErr X[j].data.toList = 0 ∧ X[j].size < 999999 ∧ rkV Q t X[j] = rnk Q[k]
theorem verOk_of {Q : List Raw} {t : ByteArray} {X : List ByteArray} (g : Good Q) (hz : ∀ r, r ∈ Q → r.1.1.size ≤ 80 ∧ r.1.2.size ≤ 80) (hK : Kept (verL (ofP t Q)) (verL (ofP t Q)).length X) : VerOk Q t X := ⟨fun j hj => by
  obtain ⟨n, h⟩ := one_of g hK (List.getElem_mem hj)
  have hq := h.mem
  have h1 := g.ofP_mem.1 hq
  refine ⟨n, h.lt, h.idx, h.same, h.ver, ?_, ?_⟩
  · have := (hz _ h1.1).2
    rw [h.same] at this
    omega
  · have h2 := rkV_at g h1.1
    rw [h1.2, h.same] at h2
    exact h2⟩
set_option maxRecDepth 100000 in
set_option maxHeartbeats 4000000 in
theorem liked_any (Q : List Raw) (t : ByteArray) (X : List ByteArray) (v u : Value) (w : World) (hL : Q.length ≤ 1000) (hX : X.length ≤ 1000000) (hok : VerOk Q t X) (hv : EsAt w v Q) (hu : TxAt w u X) :
    Calls Tryz.prog 128 #[v, .string t, u, .bool false] w fun e w' => e = .returned (.string (likN Q t X X.length).1) ∧ Below w.heap.size w w' := by
  have HRK := hid (fun j (hj : j < X.length) W (h : Below w.heap.size w W) => show Calls Tryz.prog 177 #[v, .string t, .string X[j]] W fun e w' => e = .returned (.int .i64 (rkV Q t X[j] : Nat)) ∧ Below W.heap.size W w' by
    obtain ⟨k, hk, h1, h2, h3, h4, h5⟩ := hok.at_ j hj
    rw [h5]
    exact rank_any Q t X[j] k v W hL h4 hk h1 h2 h3 (hv.below h))
  have HU := hid (fun W (h : Below w.heap.size w W) => hu.below h)
  obtain ⟨va, vc, hv1, -⟩ := id hv
  subst hv1
  obtain ⟨ua, uc, hu1, -⟩ := id hu
  subst hu1
  clear hv hu hok
  go_enter Tryz.func128, Tryz.ntmps128
  go_wp2_with fail
  go_loopw [9, 10, 11] (fun bv rv iv wr => ∃ i : Nat, i ≤ X.length ∧ iv = .int .i64 i ∧ bv = .string (likN Q t X i).1 ∧ rv = .int .i64 (likN Q t X i).2 ∧ Hid (Below w.heap.size w wr)) (fun _ _ iv _ => X.length - (intOf iv).toNat)
  case atStart => exact ⟨0, Nat.zero_le _, rfl, rfl, rfl, hid (Below.refl _ _)⟩
  case round =>
    obtain ⟨i, hi, rfl, rfl, rfl, HB⟩ := hrel
    by_cases hlt : i < X.length
    · have hiI := ix_lt hlt
      have hii := ix_pos i
      have HLI := hid hlt
      obtain ⟨b, o, hua, y0⟩ := tx_cellK (HU.out _ HB.out) hlt
      subst hua
      have HRI := hid (HRK.out i hlt wr HB.out)
      have HNX := hid (likN_next (Q := Q) (t := t) hlt)
      unfold likS at HNX
      generalize X[i] = x at *
      generalize rkV Q t x = z at *
      obtain ⟨s, hs⟩ : ∃ s, likN Q t X i = s := ⟨_, rfl⟩
      rw [hs] at HNX ⊢
      obtain ⟨bs, br⟩ := s
      simp only at HNX ⊢
      clear hlt hs
      rcases Int.lt_trichotomy br (z : Int) with hc | hc | hc
      · rw [if_pos (Int.le_of_lt hc)] at HNX
        go_wp2_with fail
        refine HRI.out.mono ?_
        rintro e w1 ⟨rfl, hb⟩
        have HB1 := hid (HB.out.trans (hb.mono HB.out.size))
        have y1 := cell_below hb y0
        clear hb
        go_wp2_with fail
        go_roundw
        case rel => first | exact ⟨i + 1, HLI.out, nr_idx i, by rw [HNX.out], by rw [HNX.out], HB1⟩ | exact ⟨i + 1, HLI.out, nx_idx HLI.out hX, by rw [HNX.out], by rw [HNX.out], HB1⟩
        case measure => first | exact nr_meas HLI.out | exact nx_meas HLI.out hX
      · subst hc
        rw [if_pos (Int.le_refl _)] at HNX
        have hn1 : ¬ ((z : Nat) : Int) < ((z : Nat) : Int) := Int.lt_irrefl _
        have hn2 : (((z : Nat) : Int) == ((z : Nat) : Int)) = true := beq_self_eq_true _
        go_wp2_with fail
        refine HRI.out.mono ?_
        rintro e w1 ⟨rfl, hb⟩
        have HB1 := hid (HB.out.trans (hb.mono HB.out.size))
        have y1 := cell_below hb y0
        clear hb
        go_wp2_with fail
        go_roundw
        case rel => first | exact ⟨i + 1, HLI.out, nr_idx i, by rw [HNX.out], by rw [HNX.out], HB1⟩ | exact ⟨i + 1, HLI.out, nx_idx HLI.out hX, by rw [HNX.out], by rw [HNX.out], HB1⟩
        case measure => first | exact nr_meas HLI.out | exact nx_meas HLI.out hX
      · rw [if_neg (Int.not_le.2 hc)] at HNX
        have hn1 : ¬ br < ((z : Nat) : Int) := Int.not_lt.2 (Int.le_of_lt hc)
        have hn2 : (((z : Nat) : Int) == br) = false := by rw [beq_eq_false_iff_ne]; exact Int.ne_of_lt hc
        have hn3 : ¬ ((z : Nat) : Int) = br := Int.ne_of_lt hc
        go_wp2_with fail
        refine HRI.out.mono ?_
        rintro e w1 ⟨rfl, hb⟩
        have HB1 := hid (HB.out.trans (hb.mono HB.out.size))
        clear hb
        go_wp2_with fail
        go_roundw
        case rel => first | exact ⟨i + 1, HLI.out, nr_idx i, by rw [HNX.out], by rw [HNX.out], HB1⟩ | exact ⟨i + 1, HLI.out, nx_idx HLI.out hX, by rw [HNX.out], by rw [HNX.out], HB1⟩
        case measure => first | exact nr_meas HLI.out | exact nx_meas HLI.out hX
    · have hiI := ix_nlt hlt
      have hie : i = X.length := Nat.le_antisymm hi (Nat.le_of_not_lt hlt)
      subst hie
      clear hlt
      go_wp2_with fail
      go_ret
      exact ⟨rfl, HB.out⟩
end Ve
end Go.Proofs.YtanponneancajaaGreatDoor


namespace Go.Proofs.YtanponneancajaaGreatDoor
open Go.RowKit Go.Maps
namespace Ve
set_option maxHeartbeats 2000000 in
theorem sameG_len (a a' : Option Addr) (n n' c c' : Nat) (w : World) (h : n ≠ n') : Calls Tryz.prog 35 #[.slice a n c, .slice a' n' c'] w fun e w' => e = .returned (.bool false) ∧ Below w.heap.size w w' := by
  have h1 : ¬ (n : Int) = (n' : Int) := by omega
  have h2 : ((n : Int) == (n' : Int)) = false := by simp; omega
  go_enter Tryz.func35, Tryz.ntmps35
  go_wp2_with fail
  go_ret
  exact ⟨rfl, Below.refl _ _⟩
set_option maxHeartbeats 2000000 in
theorem sameG_some (L M : List Bm) (b o c b' o' c' : Nat) (w : World) (hn : L.length ≤ 1000000) (hl : M.length = L.length)
    (hc : ∀ j (h : j < L.length), w.cell? ⟨b, o + j * 2, none⟩ = some (.string L[j].1) ∧ w.cell? ⟨b, o + j * 2 + 1, none⟩ = some (.string L[j].2))
    (hd : ∀ j (h : j < M.length), w.cell? ⟨b', o' + j * 2, none⟩ = some (.string M[j].1) ∧ w.cell? ⟨b', o' + j * 2 + 1, none⟩ = some (.string M[j].2)) :
    Calls Tryz.prog 35 #[.slice (some ⟨b, o, none⟩) L.length c, .slice (some ⟨b', o', none⟩) L.length c'] w fun e w' => e = .returned (.bool (decide (L = M))) ∧ Below w.heap.size w w' := by
  have HC := hid hc
  have HD := hid hd
  have hgd := modGuard
  have HX := hid (show (∀ j (h : j < L.length) (h' : j < M.length), L[j] = M[j]) → decide (L = M) = true from fun h => decide_eq_true (List.ext_getElem hl.symm (fun j h1 h2 => h j h1 h2)))
  have HY := hid (show ∀ j (h : j < L.length) (h' : j < M.length), L[j] ≠ M[j] → decide (L = M) = false from fun j h h' hne => decide_eq_false (fun e => hne (by subst e; rfl)))
  generalize decide (L = M) = z at *
  clear hc hd
  go_enter Tryz.func35, Tryz.ntmps35
  go_wp2_with fail
  go_loopw [5] (fun i wr => ∃ k : Nat, k ≤ L.length ∧ i = .int .i64 k ∧ Hid (∀ j (h : j < L.length) (h' : j < M.length), j < k → L[j] = M[j]) ∧ Hid (Below w.heap.size w wr)) (fun i _ => L.length - (intOf i).toNat)
  case atStart => exact ⟨0, Nat.zero_le _, rfl, hid (fun j _ _ hj => absurd hj (Nat.not_lt_zero _)), hid (Below.refl _ _)⟩
  case round =>
    obtain ⟨k, hk, rfl, HE, HB⟩ := hrel
    by_cases hlt : k < L.length
    · have hlm : k < M.length := by omega
      have hx := cell_below HB.out (HC.out k hlt).1
      have hy := cell_below HB.out (HC.out k hlt).2
      have hx' := cell_below HB.out (HD.out k hlm).1
      have hy' := cell_below HB.out (HD.out k hlm).2
      have hne := fun W => modNeq L[k].1 L[k].2 M[k].1 M[k].2 W
      have hkI : (k : Int) < (L.length : Int) := by omega
      have HLT := hid hlt
      have HN := hid (show L[k] = M[k] → ∀ j (h : j < L.length) (h' : j < M.length), j < k + 1 → L[j] = M[j] from fun h0 j h1 h2 h3 => by
        rcases Nat.lt_or_ge j k with h | h
        · exact HE.out j h1 h2 h
        · have : j = k := by omega
          subst this; exact h0)
      have HYK := hid (HY.out k hlt hlm)
      generalize L[k] = x at *
      generalize M[k] = y at *
      obtain ⟨x1, x2⟩ := x
      obtain ⟨y1, y2⟩ := y
      simp only at hx hy hx' hy' hne
      clear hlt hlm
      by_cases he : x1 = y1 ∧ x2 = y2
      · rw [decide_eq_true he] at hne
        have HN2 := hid (HN.out (Prod.ext he.1 he.2))
        clear he HN
        go_wp2_with fail
        go_quiet (fail)
        go_wp2_with fail
        go_roundw
        case rel => first | exact ⟨k + 1, HLT.out, nr_idx k, HN2, hid (below_drawn_of HB.out _)⟩ | exact ⟨k + 1, HLT.out, nx_idx HLT.out hn, HN2, hid (below_drawn_of HB.out _)⟩
        case measure => first | exact nr_meas HLT.out | exact nx_meas HLT.out hn
      · rw [decide_eq_false he] at hne
        have HZ := hid (HYK.out (fun e => he (by injection e with e1 e2; exact ⟨e1, e2⟩)))
        clear he HN
        go_wp2_with fail
        go_quiet (fail)
        go_wp2_with fail
        go_ret
        exact ⟨by rw [HZ.out]; rfl, below_drawn_of HB.out _⟩
    · have hkI : ¬ (k : Int) < (L.length : Int) := by omega
      have HZ := hid (HX.out (fun j h h' => HE.out j h h' (by omega)))
      go_wp2_with fail
      go_ret
      exact ⟨by rw [HZ.out]; rfl, HB.out⟩
theorem sameG_any (L M : List Bm) (v u : Value) (w : World) (hn : L.length ≤ 1000000) (hv : MsAt w v L) (hu : MsAt w u M) : Calls Tryz.prog 35 #[v, u] w fun e w' => e = .returned (.bool (decide (L = M))) ∧ Below w.heap.size w w' := by
  obtain ⟨a, c, rfl, _, h⟩ := hv
  obtain ⟨a', c', rfl, _, h'⟩ := hu
  by_cases hl : M.length = L.length
  · cases L with
    | nil =>
      have : M = [] := List.length_eq_zero_iff.1 hl
      subst this
      exact sameM_none a a' c c' w
    | cons x r =>
      obtain ⟨b, o, rfl, h2⟩ := h (by simp)
      obtain ⟨b', o', rfl, h3⟩ := h' (fun e => by rw [e] at hl; simp at hl)
      rw [hl]
      exact sameG_some (x :: r) M b o c b' o' c' w hn hl h2 h3
  · rw [decide_eq_false (fun e => hl (by rw [e]))]
    exact sameG_len a a' _ _ c c' w (fun e => hl e.symm)
end Ve
end Go.Proofs.YtanponneancajaaGreatDoor


namespace Go.Proofs.YtanponneancajaaGreatDoor
open Go.RowKit Go.Maps
namespace Ve
theorem kept_lenK {L : List ByteArray} {n : Nat} {X : List ByteArray} (g : L.length ≤ 1000) (h : Kept L n X) : X.length ≤ 1000 := by
  have hs : (bl X).length ≤ (bl L).length := nodup_sub (rises_nd h.1) fun t ht => List.mem_of_mem_take (by
    have := ((h.2 t).1 ht).1
    unfold bl at this ⊢
    rw [List.map_take] at this
    exact this)
  rw [bl_len, bl_len] at hs
  omega
set_option maxRecDepth 100000 in
set_option maxHeartbeats 4000000 in
theorem latOf_any (Q : List Raw) (t : ByteArray) (v : Value) (w : World) (hL : Q.length ≤ 1000) (g : Good Q) (hz : ∀ r, r ∈ Q → r.1.1.size ≤ 80 ∧ r.1.2.size ≤ 80) (hK : ∃ Y, KeptT Q t Y) (hv : EsAt w v Q) :
    Calls Tryz.prog 85 #[v, .string t] w fun e w' => e = .returned (.string (latV Q t)) ∧ Below w.heap.size w w' := by
  have HVO := hid (versOf_any Q t v w hL hz hv)
  have HP := hid (show pthR t Q = ofP t Q from (g.ofP t).symm)
  rw [HP.out] at HVO
  have HLK := hid (fun X u W (h : Below w.heap.size w W) (hX : Kept (verL (ofP t Q)) (verL (ofP t Q)).length X) (hu : TxAt W u X) => liked_any Q t X v u W hL (Nat.le_trans (kept_lenK (by rw [verL_len]; exact Nat.le_trans (ofP_len t Q) hL) hX) (by decide)) (verOk_of g hz hX) (hv.below h) hu)
  have HEQ := hid (fun X (hX : Kept (verL (ofP t Q)) (verL (ofP t Q)).length X) => show (likN Q t X X.length).1 = latV Q t by
    obtain ⟨Y, hY⟩ := hK
    exact lik_lat g hX hY)
  obtain ⟨va, vc, hv1, -⟩ := id hv
  subst hv1
  clear hv hz hK HP
  go_enter Tryz.func85, Tryz.ntmps85
  go_wp2_with fail
  refine HVO.out.mono ?_
  rintro e w1 ⟨u, X, rfl, hu, hX, hb⟩
  have HL1 := hid (HLK.out X u w1 hb hX hu)
  rw [HEQ.out X hX] at HL1
  have HB1 := hid hb
  obtain ⟨ua, uc, hu1, -⟩ := hu
  subst hu1
  clear hb hX HVO HLK HEQ
  go_wp2_with fail
  refine HL1.out.mono ?_
  rintro e w2 ⟨rfl, hb⟩
  have HB2 := hid (HB1.out.trans (hb.mono HB1.out.size))
  clear hb
  go_wp2_with fail
  go_ret
  exact ⟨rfl, HB2.out⟩
end Ve
end Go.Proofs.YtanponneancajaaGreatDoor
