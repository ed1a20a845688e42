/-
  FileL FileO
-/
import Derived.Test.YtiebgeamfblbdaaGreatDoorFb36
import Derived.Laws.CopyRow
import Derived.Lib.AppendZerosOnto
import Derived.Lib.Overlaps
import Derived.Deep.RegionLaw
import Derived.Shelf.Spec.SlicesInsert
namespace Go.Proofs.YtiebgeamfblbdaaGreatDoor
open Go.RowKit
namespace Ve
theorem short_of {s : List UInt8} {f : Fs} (h : readL s = .ok f) (hs : s.length < 99999) : f.1.size < 999999 ∧ shortL f.2.1 ∧ shortL f.2.2 ∧ f.2.1.length ≤ 1000000 ∧ f.2.2.length ≤ 1000000 := by
  obtain ⟨h1, h2, h3⟩ := readL_short h
  refine ⟨by omega, fun m hm => ?_, fun m hm => ?_, by omega, by omega⟩
  · have := h2 m (List.mem_append_left _ hm); omega
  · have := h2 m (List.mem_append_right _ hm); omega
theorem ms_put3 {W : World} {b : Nat} {v x y z : Value} {L : List Bm} {cs : Array Value} (hb : W.heap[b]? = some (.cells cs 24 (0, 0))) {B : Nat} (hown : W.ownsRow B 26 2 v L.length (flatM L)) : MsAt (put3 W b x y z) v L := own_ms (put3_owns hown (own_ne2 hown hb (by decide)))
set_option maxHeartbeats 1000000 in
theorem fread_ok (s : ByteArray) (f : Fs) (A : Nat → Addr) (m : Int) (w : World) (S : Te w A m) (h : ¬ 8000 < s.size) (hr : readL s.data.toList = .ok f) (hf : (fileF f.1 f.2.1 f.2.2).1 = 0) :
    Calls Tryz.prog 9 #[.string s] w fun e w' => ∃ v u, e = .returned (.tuple #[.agg #[.string f.1, v, u], .nilIface]) ∧ MsAt w' v f.2.1 ∧ MsAt w' u f.2.2 ∧ Below w.heap.size w w' := by
  have HB0 := hid ((Below.refl w.heap.size w).alloc (Nat.le_refl _) (.cells #[.string ⟨#[]⟩, .slice none 0 0, .slice none 0 0] 24))
  have HS0 := hid (S.below HB0.out)
  have HL := hid (lines_any s A m _ (by omega) HS0.out)
  have h8 : ¬ (8000 : Int) < (s.size : Int) := by omega
  have HSH := hid (short_of hr (by simp; omega))
  have HR := hid hr
  have HF := hid hf
  clear S h hr hf
  go_enter Tryz.func9, Tryz.ntmps9
  go_wp2_with fail
  refine HL.out.mono ?_
  rintro e w1 ⟨P, v, u, x, rfl, hb, _, _, hm⟩
  rw [HR.out] at hm
  obtain ⟨rfl, rfl, hv, hu, _⟩ := hm
  have HBx := hid (show Below (w.heap.size + 1) (w.alloc (.cells #[.string ⟨#[]⟩, .slice none 0 0, .slice none 0 0] 24)) w1 from hb.mono (by simp))
  have HS1 := hid (HS0.out.below hb)
  have HFL := hid (show Fl w1 f.2.1 f.2.2 v u from ⟨own_ms hv, own_ms hu, HSH.out.2.1, HSH.out.2.2.1, HSH.out.2.2.2.1, HSH.out.2.2.2.2⟩)
  have HV := hid hv
  have HU := hid hu
  obtain ⟨⟨va, vc, rfl⟩, ua, uc, rfl⟩ := HFL.out.slices
  have HBn := hid ((Below.refl w1.heap.size w1).alloc (Nat.le_refl _) (.cells #[.string f.1, .slice va f.2.1.length vc, .slice ua f.2.2.length uc] 24))
  have HBy := hid (HBx.out.trans (HBn.out.mono (by have := HBx.out.size; simpa using this)))
  have HRT := hid (right_ok f.1 f.2.1 f.2.2 _ _ A m _ HSH.out.1 (HS1.out.below HBn.out) (HFL.out.below HBn.out) HF.out)
  clear hb hv hu
  go_wp2_with fail
  refine HRT.out.mono ?_
  rintro e w2 ⟨rfl, hb⟩
  have HBz := hid (HBy.out.trans (hb.mono (by have := HBy.out.size; simpa using this)))
  obtain ⟨⟨r0, r1, r2⟩, rz⟩ := res3 HBz.out
  have rf := res3f HBz.out
  have HRB := hid (res3b HBz.out)
  have HB2 := hid (HB0.out.trans (HBz.out.mono (by omega)))
  have HV2 := hid (owns_below (owns_below HV.out HBn.out) hb)
  have HU2 := hid (owns_below (owns_below HU.out HBn.out) hb)
  clear hb
  go_wp2_with fail
  refine bodyPost_ret (v := .tuple #[.agg #[.string f.1, .slice va f.2.1.length vc, .slice ua f.2.2.length uc], .nilIface]) (by simp [results, Tryz.results9, go_sem, r0, r1, r2]) rfl ?_
  exact ⟨_, _, rfl, ms_put3 HRB.out HV2.out, ms_put3 HRB.out HU2.out, put3_below HB2.out (Nat.le_refl _)⟩
end Ve
end Go.Proofs.YtiebgeamfblbdaaGreatDoor
namespace Go.Proofs.YtiebgeamfblbdaaGreatDoor
open Go.RowKit
namespace Ve
theorem copy_row2 (w : World) (ty : TypeId) (g o dLen dCap : Nat) (a : Addr) (sLen sCap k : Nat) (cur : Array Value) (t : TypeId) (cs : List Value) (hk : Nat.min sLen dLen = k)
    (hg : w.heap[g]? = some (.cells cur t (0, 0))) (hn : cs.length = k * 2) (hsrc : ∀ j v, cs[j]? = some v → w.cell? (a.add j) = some v) (hfit : o + cs.length ≤ cur.size) (h1 : ∀ v ∈ cs, v.oneCell' = true) :
    (Builtin.copy_ #[22, 22] ty #[.slice (some ⟨g, o, none⟩) dLen dCap, .slice (some a) sLen sCap]).run Tryz.prog w =
      .ok (goInt k) (w.setRow g (cur.toList.take o ++ cs ++ cur.toList.drop (o + cs.length)).toArray) := by
  have hl := run_loadCells_list (P := Tryz.prog) w a cs hsrc
  have hst := run_storeCells_at Tryz.prog g o t cs 0 cur w hg (by simpa using hfit) h1
  obtain ⟨i0, hi, hz0, hz1, hz2⟩ := info_parts infoMod
  simp [Builtin.copy_, run_underlying Tryz.underlying22, Builtin.lenOf, Builtin.firstCells, Go.sizeOf, typeInfo, hi, hz1, hk, ← hn, hl, hst]
theorem setRow_at {w : World} {g : Nat} {cur x : Array Value} {t : TypeId} {fr : Nat × Nat} (h : w.heap[g]? = some (.cells cur t fr)) : (w.setRow g x).heap[g]? = some (.cells x t fr) := setRow_heap w g cur x t fr h
theorem setRow_far {w : World} {g k : Nat} {x : Array Value} (h : k ≠ g) : (w.setRow g x).heap[k]? = w.heap[k]? := by
  unfold World.setRow
  simp only [Array.getElem?_modify]
  rw [if_neg (fun e => h e.symm)]
theorem setRow_size (w : World) (g : Nat) (x : Array Value) : (w.setRow g x).heap.size = w.heap.size := by
  unfold World.setRow; simp
structure Insd (B : Nat) (W w' : World) (v v' : Value) (R : List Bm) : Prop where
  own : w'.ownsRow B 26 2 v' R.length (flatM R)
  gr : W.grownBy w' v.ownBlock
  at_ : v'.ownBlock = v.ownBlock ∨ ∀ g, v'.ownBlock = some g → W.heap.size ≤ g
theorem flat_cons (m : Bm) (L : List Bm) : flatM (m :: L) = [Value.string m.1, .string m.2] ++ flatM L := rfl
theorem flat_take (L : List Bm) (i : Nat) (h : i ≤ L.length) : (flatM L).take (i * 2) = flatM (L.take i) := by
  have e : flatM L = flatM (L.take i) ++ flatM (L.drop i) := by rw [← flatM_app, List.take_append_drop]
  have hl : (flatM (L.take i)).length = i * 2 := by rw [flatM_len]; simp; omega
  rw [e, ← hl, List.take_left]
theorem flat_drop (L : List Bm) (i : Nat) (h : i ≤ L.length) : (flatM L).drop (i * 2) = flatM (L.drop i) := by
  have e : flatM L = flatM (L.take i) ++ flatM (L.drop i) := by rw [← flatM_app, List.take_append_drop]
  have hl : (flatM (L.take i)).length = i * 2 := by rw [flatM_len]; simp; omega
  rw [e, ← hl, List.drop_left]
theorem ins_done {B g cap : Nat} {W w' : World} {v : Value} {R : List Bm} {m : Bm} (hown : w'.ownsRow B 26 2 (.slice (some ⟨g, 0, none⟩) (R.length + 1) cap) (R.length + 1) (flatM R ++ [.string m.1, .string m.2])) (hg : W.grownBy w' v.ownBlock) (hat : v.ownBlock = some g ∨ g = W.heap.size) :
    Insd B W w' v (.slice (some ⟨g, 0, none⟩) (R.length + 1) cap) (R ++ [m]) := by
  refine ⟨?_, hg, ?_⟩
  · rw [List.length_append, flatM_app]; exact hown
  · rcases hat with h | h
    · exact Or.inl h.symm
    · refine Or.inr (fun k hk => ?_)
      have : g = k := by simpa [Value.ownBlock] using hk
      omega
set_option maxHeartbeats 2000000 in
set_option maxRecDepth 100000 in
theorem ins_end (R : List Bm) (m : Bm) (v : Value) (B vb : Nat) (w : World) (hn : R.length ≤ 1000000) (hB : B ≤ w.heap.size) (ho : w.ownsRow B 26 2 v R.length (flatM R)) (hv : w.heap[vb]? = some (.cells #[.string m.1, .string m.2] 26 (0, 0))) :
    Calls Tryz.prog 27 #[v, .int .i64 R.length, .slice (some ⟨vb, 0, none⟩) 1 1] w fun e w' => ∃ v', e = .returned v' ∧ Insd B w w' v v' (R ++ [m]) := by
  obtain ⟨i0, hi, hz0, hz1, hz2⟩ := info_parts infoMod
  obtain ⟨a, cap, rfl⟩ : ∃ a c, v = .slice a R.length c := by
    obtain ⟨a, c, e, _⟩ := own_ms ho
    exact ⟨a, c, e⟩
  have HCP := hid (show R.length ≤ cap from by
    obtain ⟨a, c, e, h, _⟩ := own_ms ho
    injection e with _ _ e3
    omega)
  have HO := hid ho
  have HV := hid hv
  have HB := hid hB
  clear ho hv hB
  have hcc : (R.length : Int) ≤ (cap : Int) := by have := HCP.out; omega
  by_cases hce : cap = R.length
  · subst hce
    go_enter Tryz.func27, Tryz.ntmps27
    go_wp2_with (at_builtin; refine wpList_append_lies _ rfl _ _ 22 rfl B 26 i0 _ 2 32 Tryz.underlying22 hi hz0 hz1 hz2 rfl (by decide) _ _ _ rfl HO.out ⟨vb, 0, none⟩ 1 1 [.string m.1, .string m.2] rfl rfl (World.news_of_block (cs := #[.string m.1, .string m.2]) HV.out) (by simp [Value.oneCell']) (by omega) (by unfold maxLen; omega) (by omega) HB.out w.heap.size rfl ?_)
    intro g cap2 w2 hown hgrow hat hlt
    have HQ := hid (ins_done (m := m) hown hgrow hat)
    clear hown hgrow hat hlt
    go_wp2_with fail
    go_ret
    exact ⟨_, rfl, HQ.out⟩
  · have hcn : ¬ R.length = cap := fun e => hce e.symm
    cases a with
    | none =>
      have h0 : R = [] ∧ cap = 0 := by
        obtain ⟨_, ⟨h1, h2⟩ | ⟨g, c, cur, h1, _⟩⟩ := HO.out
        · injection h1 with _ _ h3
          exact ⟨List.length_eq_zero_iff.1 h2, h3⟩
        · cases h1
      exact absurd (by rw [h0.1, h0.2]; rfl) hce
    | some a =>
      obtain ⟨ab, ao, asp⟩ := a
      go_enter Tryz.func27, Tryz.ntmps27
      go_wp2_with (at_builtin; refine wpList_append_lies _ rfl _ _ 22 rfl B 26 i0 _ 2 32 Tryz.underlying22 hi hz0 hz1 hz2 rfl (by decide) _ _ _ rfl HO.out ⟨vb, 0, none⟩ 1 1 [.string m.1, .string m.2] rfl rfl (World.news_of_block (cs := #[.string m.1, .string m.2]) HV.out) (by simp [Value.oneCell']) (by omega) (by unfold maxLen; omega) (by omega) HB.out w.heap.size rfl ?_)
      intro g cap2 w2 hown hgrow hat hlt
      have HQ := hid (ins_done (m := m) hown hgrow hat)
      clear hown hgrow hat hlt
      go_wp2_with fail
      go_ret
      exact ⟨_, rfl, HQ.out⟩
end Ve
end Go.Proofs.YtiebgeamfblbdaaGreatDoor
