/-
  What the document's answer reads of a text (ReadFile): a file, or a fault; nothing old in memory turns.
-/
import Derived.Test.YtjphlclhkaoipaaGreatDoorJn5
import Derived.Test.YtjphlclhkaoipaaGreatDoorJn9
import Derived.Test.YtjphlclhkaoipaaGreatDoorJn8
import Derived.Deep.RegionHeld
import Derived.Test.YtjphlclhkaoipaaGreatDoorVerR
import Derived.Test.YtjphlclhkaoipaaGreatDoorVerQ
import Derived.Test.YtjphlclhkaoipaaGreatDoorAhead
namespace Go.Proofs.YtjphlclhkaoipaaGreatDoor
open Go.RowKit
namespace Ve

/-- A fault, and a file: none where there is one. -/
def readOut (s : List UInt8) : (Nat × Option Nat) × Fs := match readF s with
  | .error co => (co, noFile)
  | .ok f => ((0, none), f)
/-- What ReadFile answers. -/
def RdQ (s : List UInt8) (w w' : World) (e : Ending) : Prop :=
  ∃ v u, e = .returned (.tuple #[.agg #[.string (readOut s).2.1, v, u], faultV (readOut s).1]) ∧ MsAt w' v (readOut s).2.2.1 ∧ MsAt w' u (readOut s).2.2.2 ∧ Below w.heap.size w w'
theorem rcut10 (s : ByteArray) (w : World) (hs : s.size < 4294967281) : Calls Tryz.prog 37 #[.string s, .int .u8 10] w fun e w' => ∃ v X, e = .returned v ∧ bl X = cutAt 10 s.data.toList ∧ w'.ownsRow w.heap.size 9 1 v X.length (X.map Value.string) ∧ Below w.heap.size w w' := rcut_any s 10 w hs
theorem rcut32 (s : ByteArray) (w : World) (hs : s.size < 4294967281) : Calls Tryz.prog 37 #[.string s, .int .u8 32] w fun e w' => ∃ v X, e = .returned v ∧ bl X = cutAt 32 s.data.toList ∧ w'.ownsRow w.heap.size 9 1 v X.length (X.map Value.string) ∧ Below w.heap.size w w' := rcut_any s 32 w hs
/-- The two boxes for what is answered. -/
def resW (w : World) : World := (w.alloc (.cells #[.string ⟨#[]⟩, .slice none 0 0, .slice none 0 0] 24)).alloc (.cells #[.int .i64 0, .int .i64 0] 35)
theorem resW_size (w : World) : (resW w).heap.size = w.heap.size + 1 + 1 := by simp [resW]
theorem resW_below (w : World) : Below w.heap.size w (resW w) := ((Below.refl w.heap.size w).alloc (Nat.le_refl _) _).alloc (by simp) _
theorem resW_f (w : World) : (resW w).heap[w.heap.size]? = some (.cells #[.string ⟨#[]⟩, .slice none 0 0, .slice none 0 0] 24 (0, 0)) := heap_old _ _ (heap_new w _)
theorem resW_g (w : World) : (resW w).heap[w.heap.size + 1]? = some (.cells #[.int .i64 0, .int .i64 0] 35 (0, 0)) := by
  have hz : (w.alloc (.cells #[.string ⟨#[]⟩, .slice none 0 0, .slice none 0 0] 24)).heap.size = w.heap.size + 1 := by simp
  have := heap_new (w.alloc (.cells #[.string ⟨#[]⟩, .slice none 0 0, .slice none 0 0] 24)) (.cells #[.int .i64 0, .int .i64 0] 35)
  rw [hz] at this
  exact this
/-- What lies in them while memory grows. -/
theorem resW_at {w W : World} (hb : Below (resW w).heap.size (resW w) W) :
    (W.cell? ⟨w.heap.size, 0, none⟩ = some (.string ⟨#[]⟩) ∧ W.cell? ⟨w.heap.size, 1, none⟩ = some (.slice none 0 0) ∧ W.cell? ⟨w.heap.size, 2, none⟩ = some (.slice none 0 0)) ∧ (W.cell? ⟨w.heap.size + 1, 0, none⟩ = some (.int .i64 0) ∧ W.cell? ⟨w.heap.size + 1, 1, none⟩ = some (.int .i64 0)) ∧
    (∀ o, W.frozen? ⟨w.heap.size, o, none⟩ = false) ∧ (∀ o, W.frozen? ⟨w.heap.size + 1, o, none⟩ = false) ∧ W.heap[w.heap.size]? = some (.cells #[.string ⟨#[]⟩, .slice none 0 0, .slice none 0 0] 24 (0, 0)) ∧ W.heap[w.heap.size + 1]? = some (.cells #[.int .i64 0, .int .i64 0] 35 (0, 0)) := by
  have h1 := blk_keep (resW_f w) hb
  have h2 := blk_keep (resW_g w) hb
  refine ⟨⟨?_, ?_, ?_⟩, ⟨?_, ?_⟩, fun o => Lib.frozen_of_heap h1 o, fun o => Lib.frozen_of_heap h2 o, h1, h2⟩
  · rw [Lib.cell_of_heap h1]; rfl
  · rw [Lib.cell_of_heap h1]; rfl
  · rw [Lib.cell_of_heap h1]; rfl
  · rw [Lib.cell_of_heap h2]; rfl
  · rw [Lib.cell_of_heap h2]; rfl
theorem size_lim {s : ByteArray} (h : ¬ 8000 < s.size) : ¬ 8000 < s.data.toList.length := by rw [len_eq]; exact h
theorem readF_bad {s : ByteArray} {k : Nat} (h : ¬ 8000 < s.size) (hr : readL s.data.toList = .error k) : readOut s.data.toList = ((1, some k), noFile) := by
  unfold readOut readF; rw [if_neg (size_lim h), hr]
theorem readF_long {s : ByteArray} (h : 8000 < s.size) : readOut s.data.toList = ((2, none), noFile) := by
  unfold readOut readF; rw [if_pos (by rw [len_eq]; exact h)]
theorem readF_file {s : ByteArray} {f : Fs} (h : ¬ 8000 < s.size) (hr : readL s.data.toList = .ok f) (hf : (fileF f.1 f.2.1 f.2.2).1 ≠ 0) : readOut s.data.toList = (((fileF f.1 f.2.1 f.2.2).1, none), noFile) := by
  unfold readOut readF; rw [if_neg (size_lim h), hr]; simp only; rw [if_neg hf]
theorem readF_ok {s : ByteArray} {f : Fs} (h : ¬ 8000 < s.size) (hr : readL s.data.toList = .ok f) (hf : (fileF f.1 f.2.1 f.2.2).1 = 0) : readOut s.data.toList = ((0, none), f) := by
  unfold readOut readF; rw [if_neg (size_lim h), hr]; simp only; rw [if_pos hf]

theorem rdq_bad {s : List UInt8} {w W : World} {c : Nat} {o : Option Nat} {a : Int} (hb : Below w.heap.size w W) (ho : readOut s = ((c, o), noFile)) (ha : a = atOf o) :
    RdQ s w (((((W.setCell ⟨w.heap.size, 0, none⟩ (.string ⟨#[]⟩)).setCell ⟨w.heap.size, 1, none⟩ (.slice none 0 0)).setCell ⟨w.heap.size, 2, none⟩ (.slice none 0 0)).setCell ⟨w.heap.size + 1, 0, none⟩ (.int .i64 (c : Nat))).setCell ⟨w.heap.size + 1, 1, none⟩ (.int .i64 a))
      (.returned (.tuple #[.agg #[.string ⟨#[]⟩, .slice none 0 0, .slice none 0 0], .agg #[.int .i64 (c : Nat), .int .i64 a]])) := by
  unfold RdQ
  rw [ho, ha]
  exact ⟨_, _, rfl, ms_nil _, ms_nil _, put2_below (put3_below hb (Nat.le_refl _)) (by omega)⟩
theorem news2 (w : World) (a b : Value) : ∀ j u, [a, b][j]? = some u → (w.alloc (.cells #[a, b] 26)).cell? ((⟨w.heap.size, 0, none⟩ : Addr).add j) = some u :=
  World.news_of_block (cs := #[a, b]) (t := 26) (fr := (0, 0)) (heap_alloc_new w _)
theorem two_one (a b : ByteArray) : ∀ u ∈ [Value.string a, Value.string b], u.oneCell' = true := by
  intro u hu; simp at hu; rcases hu with rfl | rfl <;> rfl
theorem step0_bad {ws : List (List UInt8)} {f : Fs} (h : ws.length ≠ 2) : stepF 0 ws f = none := by
  unfold stepF
  rw [if_pos rfl]
  split
  · simp at h
  · rfl
theorem step1_bad {k : Nat} {ws : List (List UInt8)} {f : Fs} (hk : k ≠ 0) (h : ws.length ≠ 3) : stepF k ws f = none := by
  unfold stepF
  rw [if_neg hk]
  split
  · simp at h
  · rfl
theorem step0_is (a b : List UInt8) (f : Fs) : stepF 0 [a, b] f = if a = wModule then some (bt b, f.2) else none := by unfold stepF; rw [if_pos rfl]
theorem step1_is {k : Nat} (hk : k ≠ 0) (a b c : List UInt8) (f : Fs) : stepF k [a, b, c] f = if a = wRequire ∧ f.2.2 = [] then some (f.1, f.2.1 ++ [(bt b, bt c)], f.2.2) else if a = wExclude then some (f.1, f.2.1, f.2.2 ++ [(bt b, bt c)]) else none := by unfold stepF; rw [if_neg hk]
theorem len2 {Y : List ByteArray} (h : Y.length = 2) : ∃ a b, Y = [a, b] := by
  match Y, h with
  | [a, b], _ => exact ⟨a, b, rfl⟩
theorem len3 {Y : List ByteArray} (h : Y.length = 3) : ∃ a b c, Y = [a, b, c] := by
  match Y, h with
  | [a, b, c], _ => exact ⟨a, b, c, rfl⟩
theorem word_yes {a : ByteArray} {l : List UInt8} (h : a.data.toList = l) : (a.toList == l) = true := by rw [ByteArray.toList_eq, h]; exact beq_self_eq_true l
theorem word_no {a : ByteArray} {l : List UInt8} (h : ¬ a.data.toList = l) : (a.toList == l) = false := by rw [ByteArray.toList_eq]; exact beq_eq_false_iff_ne.2 h
theorem RdQ.drew {s : List UInt8} {w W : World} {e : Ending} (h : RdQ s w W e) : RdQ s w W.drew e := by
  obtain ⟨v, u, h1, h2, h3, h4⟩ := h
  exact ⟨v, u, h1, h2.below (below_drawn W 1), h3.below (below_drawn W 1), below_drawn_of h4 1⟩
theorem rdq_ok {s : List UInt8} {w W : World} {kp : Nat × Array Value} {fb : Nat} {f : Fs} {v u : Value} (R : Rd kp (resW w) W fb f v u) (ho : readOut s = ((0, none), f)) :
    RdQ s w (((((W.setCell ⟨w.heap.size, 0, none⟩ (.string f.1)).setCell ⟨w.heap.size, 1, none⟩ v).setCell ⟨w.heap.size, 2, none⟩ u).setCell ⟨w.heap.size + 1, 0, none⟩ (.int .i64 0)).setCell ⟨w.heap.size + 1, 1, none⟩ (.int .i64 (-1)))
      (.returned (.tuple #[.agg #[.string f.1, v, u], .agg #[.int .i64 0, .int .i64 (-1)]])) := by
  obtain ⟨_, _, _, _, h1, h2⟩ := resW_at R.bl
  have hb : Below w.heap.size w W := (resW_below w).trans (R.bl.mono (resW_below w).size)
  have go : ∀ {x : Value} {L : List Bm}, W.ownsRow (resW w).heap.size 26 2 x L.length (flatM L) → MsAt (((put3 W w.heap.size (.string f.1) v u).setCell ⟨w.heap.size + 1, 0, none⟩ (.int .i64 0)).setCell ⟨w.heap.size + 1, 1, none⟩ (.int .i64 (-1))) x L := fun h =>
    own_ms (owns_set (owns_set (put3_owns h (own_ne2 h h1 (by decide))) (own_ne2 h h2 (by decide))) (own_ne2 h h2 (by decide)))
  unfold RdQ
  rw [ho]
  exact ⟨v, u, rfl, go R.ov, go R.ou, put2_below (put3_below hb (Nat.le_refl _)) (by omega)⟩
set_option maxHeartbeats 1000000 in
theorem rdf_long (s : ByteArray) (w : World) (h : 8000 < s.size) : Calls Tryz.prog 13 #[.string s] w fun e w' => RdQ s.data.toList w w' e := by
  have HO := hid (readF_long h)
  have h8 : (8000 : Int) < (s.size : Int) := by omega
  have HB0 := hid (resW_below w)
  clear h
  go_enter Tryz.func13, Tryz.ntmps13
  go_wp2_with fail
  refine (rbare_any _ (resW w)).mono ?_
  rintro e w1 ⟨rfl, hb⟩
  obtain ⟨⟨r0, r1, r2⟩, ⟨g0, g1⟩, rf, gf, _, _⟩ := resW_at hb
  have HB := hid (HB0.out.trans (hb.mono HB0.out.size))
  clear hb
  go_wp2_with fail
  refine bodyPost_ret (v := .tuple #[.agg #[.string ⟨#[]⟩, .slice none 0 0, .slice none 0 0], .agg #[.int .i64 2, .int .i64 (-1)]]) (by simp [results, Tryz.results13, go_sem, r0, r1, r2, g0, g1]) rfl ?_
  exact rdq_bad HB.out HO.out rfl
theorem own_block {w : World} {base : Nat} {e : TypeId} {v : Value} {X : List ByteArray} (h : w.ownsRow base e 1 v X.length (X.map Value.string)) (hX : X ≠ []) : ∃ g cap cur, v = .slice (some ⟨g, 0, none⟩) X.length cap ∧ base ≤ g ∧ w.heap[g]? = some (.cells cur e (0, 0)) ∧ ∀ j (hj : j < X.length), cur[j]? = some (.string X[j]) := by
  obtain ⟨_, ⟨_, hn0⟩ | ⟨g, cap, cur, hv, hg, hblk, hcap, hcm, hcs, hct⟩⟩ := h
  · exact absurd (List.length_eq_zero_iff.1 hn0) hX
  · refine ⟨g, cap, _, hv, hg, hblk, fun j hj => ?_⟩
    have : cur[j]? = (X.map Value.string)[j]? := by
      rw [← hct, List.getElem?_take, if_pos (by omega)]; simp
    simp [this, hj]
theorem rd_first {w w1 : World} {g : Nat} {cur : Array Value} (hb : Below ((resW w).alloc (.cells #[.string ⟨#[]⟩, .slice none 0 0, .slice none 0 0] 24)).heap.size ((resW w).alloc (.cells #[.string ⟨#[]⟩, .slice none 0 0, .slice none 0 0] 24)) w1) (hk : w1.heap[g]? = some (.cells cur 9 (0, 0))) :
    Rd (g, cur) (resW w) w1 (w.heap.size + 1 + 1) noFile (.slice none 0 0) (.slice none 0 0) := by
  have h0 : Below (resW w).heap.size (resW w) ((resW w).alloc (.cells #[.string ⟨#[]⟩, .slice none 0 0, .slice none 0 0] 24)) := (Below.refl _ _).alloc (Nat.le_refl _) _
  have hn := heap_new (resW w) (.cells #[.string ⟨#[]⟩, .slice none 0 0, .slice none 0 0] 24)
  rw [resW_size] at hn
  exact ⟨hk, h0.trans (hb.mono h0.size), by rw [resW_size]; omega, blk_keep hn hb, World.ownsRow_nil _ _ _ _, World.ownsRow_nil _ _ _ _, fun g hg => by simp [Value.ownBlock] at hg⟩
theorem bl_drop {X : List ByteArray} {k : Nat} (hk : k < X.length) : bl (X.drop k) = X[k].data.toList :: bl (X.drop (k + 1)) := by
  rw [List.drop_eq_getElem_cons hk]; rfl
theorem bl_drop_ne {X : List ByteArray} {k : Nat} (hk : k < X.length) : bl (X.drop k) ≠ [] := by rw [bl_drop hk]; simp
theorem drop_end {X : List ByteArray} {k : Nat} (hk : k < X.length) (h : k + 1 = X.length) : bl (X.drop k) = [X[k].data.toList] := by
  rw [bl_drop hk, List.drop_of_length_le (by omega)]; rfl
theorem emp_iff (a : ByteArray) : a.data.toList = [] ↔ a = ⟨#[]⟩ := by
  constructor
  · intro h; exact str_ext (by rw [h])
  · intro h; rw [h]
set_option maxHeartbeats 8000000 in
set_option maxRecDepth 100000 in
theorem rdf_short (s : ByteArray) (w : World) (h : ¬ 8000 < s.size) : Calls Tryz.prog 13 #[.string s] w fun e w' => RdQ s.data.toList w w' e := by
  obtain ⟨i0, hi0, hz0, hz1, hz2⟩ := info_parts infoMod
  have HOE := hid (fun k hr => readF_bad (k := k) h hr)
  have HOF := hid (fun f hr hf => readF_file (f := f) h hr hf)
  have HOK := hid (fun f hr hf => readF_ok (f := f) h hr hf)
  have HSH := hid (fun f (hr : readL s.data.toList = .ok f) => short_of hr (by rw [len_eq]; omega))
  have h8 : ¬ (8000 : Int) < (s.size : Int) := by omega
  have hsz : s.size ≤ 8000 := by omega
  have HB0 := hid (resW_below w)
  clear h
  go_enter Tryz.func13, Tryz.ntmps13
  go_wp2_with fail
  refine (rcut10 s ((resW w).alloc (.cells #[.string ⟨#[]⟩, .slice none 0 0, .slice none 0 0] 24)) (by omega)).mono ?_
  rintro e w1 ⟨lv, X, rfl, hX, hown, hb⟩
  have hXN : X ≠ [] := fun h => by subst h; exact cutAt_ne _ _ hX.symm
  obtain ⟨g, cap, cur, rfl, _, hblk, hcur⟩ := own_block hown hXN
  have HCUR := hid hcur
  have HRD := hid (rd_first hb hblk)
  have HX := hid hX
  have hXle := many_le hX
  have HXB := hid (show X.length ≤ 8001 by omega)
  have HXP := hid (show 0 < X.length from List.length_pos_iff.2 hXN)
  have HXZ := hid (show ∀ x, x ∈ X → x.size < 4294967281 from fun x hx => by have := piece_le hX hx; omega)
  clear hX hown hb hblk hcur hXN
  go_wp2_with fail
  go_loopw [6] (fun i wr => ∃ (k : Nat) (f : Fs) (v u : Value), k < X.length ∧ i = .int .i64 k ∧ Hid (readGo k (bl (X.drop k)) f = readL s.data.toList) ∧ Hid (f.2.1.length ≤ k ∧ f.2.2.length ≤ k) ∧ Hid (Rd (g, cur) (resW w) wr (w.heap.size + 1 + 1) f v u)) (fun i _ => X.length - (intOf i).toNat)
  case atStart => exact ⟨0, noFile, _, _, HXP.out, rfl, hid (by rw [List.drop_zero, HX.out]; rfl), hid ⟨Nat.le_refl _, Nat.le_refl _⟩, HRD⟩
  case round =>
    obtain ⟨k, f, v, u, hk, rfl, HG, HLN, HR⟩ := hrel
    obtain ⟨va, vc, ev, _⟩ := own_ms HR.out.ov
    obtain ⟨ua, uc, eu, _⟩ := own_ms HR.out.ou
    subst ev; subst eu
    have f0 := HR.out.c0
    have f1 := HR.out.c1
    have f2 := HR.out.c2
    have ff := HR.out.fz
    have hl : wr.cell? ⟨g, k, none⟩ = some (.string X[k]) := by rw [Lib.cell_of_heap HR.out.kb]; exact HCUR.out k hk
    have hkI : (k : Int) < (X.length : Int) := by omega
    have HK := hid hk
    obtain ⟨⟨r0, r1, r2⟩, ⟨g0, g1⟩, rf, gf, _, _⟩ := resW_at HR.out.bl
    by_cases hlast : k + 1 = X.length
    · have gw : (X.length : Int) - 1 = (k : Int) := by omega
      have gw3 : IntKind.i64.wrap (k : Int) = (k : Int) := by rw [IntKind.wrap_i64]; omega
      have HD := hid (drop_end hk hlast)
      rw [HD.out] at HG
      clear hlast HD
      generalize X[k] = x at *
      by_cases hx : x.data.toList = []
      · have hq : x.toList.isEmpty = true := by rw [ByteArray.toList_eq, hx]; rfl
        by_cases h00 : k = 0
        · have HV := hid (HOE.out k (by rw [← HG.out, readGo, if_neg (fun h => h.2 h00)]))
          have hk0 : ((k : Int) == 0) = true := beq_iff_eq.2 (by omega)
          clear hx hk h00
          go_wp2_with fail
          refine bodyPost_ret (v := .tuple #[.agg #[.string ⟨#[]⟩, .slice none 0 0, .slice none 0 0], .agg #[.int .i64 1, .int .i64 k]]) (by simp [results, Tryz.results13, go_sem, r0, r1, r2, g0, g1]) rfl ?_
          exact rdq_bad (HB0.out.trans (HR.out.bl.mono HB0.out.size)) HV.out rfl
        · have HV := hid (show readL s.data.toList = .ok f by rw [← HG.out, readGo, if_pos ⟨hx, h00⟩])
          have hk0 : ((k : Int) == 0) = false := beq_eq_false_iff_ne.2 (by omega)
          clear hx hk h00
          have HS := hid (HSH.out f HV.out)
          have HFL := hid (show Fl wr f.2.1 f.2.2 (.slice va f.2.1.length vc) (.slice ua f.2.2.length uc) from ⟨own_ms HR.out.ov, own_ms HR.out.ou, HS.out.2.1, HS.out.2.2.1, HS.out.2.2.2.1, HS.out.2.2.2.2⟩)
          have HFF := hid (ffault_any f.1 f.2.1 f.2.2 _ _ wr HS.out.1 HFL.out)
          unfold faultV at HFF
          go_wp2_with fail
          refine HFF.out.mono ?_
          rintro e w2 ⟨rfl, hb⟩
          have HR2 := hid (HR.out.below hb)
          clear hb f0 f1 f2 ff r0 r1 r2 g0 g1 rf gf
          generalize hcz : (fileF f.1 f.2.1 f.2.2).1 = z at *
          generalize atOf (fileF f.1 f.2.1 f.2.2).2 = y at *
          have HBE := hid ((Below.refl w2.heap.size w2).alloc (Nat.le_refl _) (.cells #[.int .i64 z, .int .i64 y] 35))
          have HR3 := hid (HR2.out.below HBE.out)
          have e0 : (w2.alloc (.cells #[.int .i64 z, .int .i64 y] 35)).cell? ⟨w2.heap.size, 0, none⟩ = some (.int .i64 z) := by simp
          by_cases hz : z = 0
          · have HO := hid (HOK.out f HV.out (by rw [hcz, hz]))
            subst hz
            clear hcz
            have f0 := HR3.out.c0
            have f1 := HR3.out.c1
            have f2 := HR3.out.c2
            go_wp2_with fail
            generalize w2.alloc (.cells #[.int .i64 ((0 : Nat) : Int), .int .i64 y] 35) = w3 at *
            go_region_with (go_at_call 31; refine (fine_any _).mono ?_; rintro e w4 ⟨rfl, hb⟩; have HR4 := hid ((HR3.out.below (below_drawn _ 1)).below hb); have f0 := HR4.out.c0; have f1 := HR4.out.c1; have f2 := HR4.out.c2; obtain ⟨⟨r0, r1, r2⟩, ⟨g0, g1⟩, rf, gf, _, _⟩ := resW_at HR4.out.bl; clear hb)
            all_goals
              go_wp2_with fail
              refine bodyPost_ret (v := .tuple #[.agg #[.string f.1, .slice va f.2.1.length vc, .slice ua f.2.2.length uc], .agg #[.int .i64 0, .int .i64 (-1)]]) (by simp [results, Tryz.results13, go_sem, r0, r1, r2, g0, g1]) rfl ?_
              exact rdq_ok HR4.out HO.out
          · have HO := hid (HOF.out f HV.out (by rw [hcz]; exact hz))
            rw [hcz] at HO
            have hpos : (0 : Int) < (z : Int) := by omega
            clear hcz hz
            go_wp2_with fail
            refine (rbare_any _ _).mono ?_
            rintro e w4 ⟨rfl, hb⟩
            have HR4 := hid (HR3.out.below hb)
            obtain ⟨⟨r0, r1, r2⟩, ⟨g0, g1⟩, rf, gf, _, _⟩ := resW_at HR4.out.bl
            clear hb
            go_wp2_with fail
            refine bodyPost_ret (v := .tuple #[.agg #[.string ⟨#[]⟩, .slice none 0 0, .slice none 0 0], .agg #[.int .i64 z, .int .i64 (-1)]]) (by simp [results, Tryz.results13, go_sem, r0, r1, r2, g0, g1]) rfl ?_
            exact rdq_bad (HB0.out.trans (HR4.out.bl.mono HB0.out.size)) HO.out rfl
      · have hq : x.toList.isEmpty = false := by
          rw [ByteArray.toList_eq]
          cases e : x.data.toList with
          | nil => exact absurd e hx
          | cons _ _ => rfl
        have HV := hid (HOE.out k (by rw [← HG.out, readGo, if_neg (fun h => hx h.1)]))
        clear hx hk
        go_wp2_with fail
        refine bodyPost_ret (v := .tuple #[.agg #[.string ⟨#[]⟩, .slice none 0 0, .slice none 0 0], .agg #[.int .i64 1, .int .i64 k]]) (by simp [results, Tryz.results13, go_sem, r0, r1, r2, g0, g1]) rfl ?_
        exact rdq_bad (HB0.out.trans (HR.out.bl.mono HB0.out.size)) HV.out rfl
    · obtain ⟨n1, hn1⟩ : ∃ n1, X.length = n1 + 1 := ⟨X.length - 1, by omega⟩
      have gw : (X.length : Int) - 1 = (n1 : Int) := by omega
      have gw3 : IntKind.i64.wrap (n1 : Int) = (n1 : Int) := by rw [IntKind.wrap_i64]; omega
      have hkn : ((k : Int) == (n1 : Int)) = false := beq_eq_false_iff_ne.2 (by omega)
      have HNE := hid (bl_drop_ne (X := X) (k := k + 1) (by omega))
      have hk1 : k + 1 < X.length := by omega
      have HK1 := hid hk1
      rw [bl_drop hk] at HG
      have HXK := hid (HXZ.out X[k] (List.getElem_mem hk))
      generalize X[k] = x at *
      have HST := hid (fun f' (h : stepF k (cutAt 32 x.data.toList) f = some f') => (go_step HNE.out h).symm.trans HG.out)
      have HBD2 := hid (fun (h : stepF k (cutAt 32 x.data.toList) f = none) => HOE.out k (HG.out.symm.trans (go_bad HNE.out h)))
      clear hlast hk1 hk hn1
      go_wp2_with fail
      refine (rcut32 x _ HXK.out).mono ?_
      rintro e w2 ⟨wv, Y, rfl, hY, hown, hb⟩
      have HR2 := hid (HR.out.below hb)
      obtain ⟨gy, cy, rfl, _, hgz, hcells⟩ := owned_cells hown (fun h => by subst h; exact cutAt_ne _ _ hY.symm)
      have HCY := hid hcells
      rw [← hY] at HST HBD2
      have hYl : (bl Y).length = Y.length := bl_len Y
      have hYle := many_le hY
      have HYL := hid hYl
      clear hb hown hcells hYl f0 f1 f2 ff hl r0 r1 r2 g0 g1 rf gf
      have f0 := HR2.out.c0
      have f1 := HR2.out.c1
      have f2 := HR2.out.c2
      have ff := HR2.out.fz
      obtain ⟨⟨r0, r1, r2⟩, ⟨g0, g1⟩, rf, gf, _, _⟩ := resW_at HR2.out.bl
      by_cases h00 : k = 0
      · have hk0 : ((k : Int) == 0) = true := beq_iff_eq.2 (by omega)
        have HK0 := hid h00
        by_cases h2 : Y.length = 2
        · obtain ⟨a, b, rfl⟩ := len2 h2
          have d0 : w2.cell? ⟨gy, 0, none⟩ = some (.string a) := HCY.out 0 (by simp)
          have d1 : w2.cell? ⟨gy, 1, none⟩ = some (.string b) := HCY.out 1 (by simp)
          have HS0 := hid (show stepF k (bl [a, b]) f = if a.data.toList = wModule then some (b, f.2) else none by rw [h00]; show stepF 0 [a.data.toList, b.data.toList] f = _; rw [step0_is, bt_of])
          clear h2 h00 hYle
          by_cases ha : a.data.toList = wModule
          · have HN := hid (HST.out _ (by rw [HS0.out, if_pos ha]))
            have hq : (a.toList == [109, 111, 100, 117, 108, 101]) = true := word_yes ha
            clear ha
            go_wp2_with fail
            refine ⟨⟨k + 1, (b, f.2), _, _, HK1.out, rfl, HN, hid ⟨by have := HLN.out.1; exact Nat.le_succ_of_le this, by have := HLN.out.2; exact Nat.le_succ_of_le this⟩, hid (HR2.out.path b)⟩, ?_⟩
            have := HK.out
            simp [intOf]; omega
          · have HV := hid (HBD2.out (by rw [HS0.out, if_neg ha]))
            have hq : (a.toList == [109, 111, 100, 117, 108, 101]) = false := word_no ha
            clear ha
            go_wp2_with fail
            refine bodyPost_ret (v := .tuple #[.agg #[.string ⟨#[]⟩, .slice none 0 0, .slice none 0 0], .agg #[.int .i64 1, .int .i64 k]]) (by simp [results, Tryz.results13, go_sem, r0, r1, r2, g0, g1]) rfl ?_
            exact rdq_bad (HB0.out.trans (HR2.out.bl.mono HB0.out.size)) HV.out rfl
        · have HV := hid (HBD2.out (by rw [h00]; exact step0_bad (by rw [HYL.out]; exact h2)))
          have h2n : ((Y.length : Int) != 2) = true := bne_iff_ne.2 (by omega)
          clear h2 h00
          go_wp2_with fail
          refine bodyPost_ret (v := .tuple #[.agg #[.string ⟨#[]⟩, .slice none 0 0, .slice none 0 0], .agg #[.int .i64 1, .int .i64 k]]) (by simp [results, Tryz.results13, go_sem, r0, r1, r2, g0, g1]) rfl ?_
          exact rdq_bad (HB0.out.trans (HR2.out.bl.mono HB0.out.size)) HV.out rfl
      · have hk0 : ((k : Int) == 0) = false := beq_eq_false_iff_ne.2 (by omega)
        by_cases h3 : Y.length = 3
        · obtain ⟨a, b, c, rfl⟩ := len3 h3
          have d0 : w2.cell? ⟨gy, 0, none⟩ = some (.string a) := HCY.out 0 (by simp)
          have d1 : w2.cell? ⟨gy, 1, none⟩ = some (.string b) := HCY.out 1 (by simp)
          have d2 : w2.cell? ⟨gy, 2, none⟩ = some (.string c) := HCY.out 2 (by simp)
          have HS1 := hid (show stepF k (bl [a, b, c]) f = if a.data.toList = wRequire ∧ f.2.2 = [] then some (f.1, f.2.1 ++ [(b, c)], f.2.2) else if a.data.toList = wExclude then some (f.1, f.2.1, f.2.2 ++ [(b, c)]) else none by
            show stepF k [a.data.toList, b.data.toList, c.data.toList] f = _
            rw [step1_is h00, bt_of, bt_of])
          have n0 := World.new_ne w2 ⟨gy, 0, none⟩ d0
          have n1 := World.new_ne w2 ⟨gy, 1, none⟩ d1
          have n2 := World.new_ne w2 ⟨gy, 2, none⟩ d2
          clear h3 h00 hYle
          go_wp2_with fail
          go_region_held (fun W => W.cell? ⟨gy, 1, none⟩ = some (.string b) ∧ W.cell? ⟨gy, 2, none⟩ = some (.string c)) (go_keep) (fail)
          have HBM := hid ((Below.refl w2.heap.size w2).alloc (Nat.le_refl _) (.cells #[.string b, .string c] 26))
          have HBD := hid (show Below w2.heap.size w2 (w2.alloc (.cells #[.string b, .string c] 26)).drew from HBM.out.trans ((below_drawn (w2.alloc (.cells #[.string b, .string c] 26)) 1).mono HBM.out.size))
          have HR3 := hid (HR2.out.below HBD.out)
          have m0 : (w2.alloc (.cells #[.string b, .string c] 26)).drew.cell? ⟨w2.heap.size, 0, none⟩ = some (.string b) := by simp
          have m1 : (w2.alloc (.cells #[.string b, .string c] 26)).drew.cell? ⟨w2.heap.size, 1, none⟩ = some (.string c) := by simp
          have HZ3 := hid (show w2.heap.size < (w2.alloc (.cells #[.string b, .string c] 26)).drew.heap.size by simp)
          replace d0 := cell_below HBD.out d0
          clear f0 f1 f2 ff r0 r1 r2 g0 g1 rf gf d1 d2 n0 n1 n2
          generalize (w2.alloc (.cells #[.string b, .string c] 26)).drew = w3 at *
          have f0 := HR3.out.c0
          have f1 := HR3.out.c1
          have f2 := HR3.out.c2
          have ff := HR3.out.fz
          obtain ⟨⟨r0, r1, r2⟩, ⟨g0, g1⟩, rf, gf, _, _⟩ := resW_at HR3.out.bl
          by_cases ha : a.data.toList = wRequire
          · have hqr : (a.toList == [114, 101, 113, 117, 105, 114, 101]) = true := word_yes ha
            have hqe : (a.toList == [101, 120, 99, 108, 117, 100, 101]) = false := word_no (by rw [ha]; decide)
            by_cases hX : f.2.2 = []
            · have HN := hid (HST.out _ (by rw [HS1.out, if_pos ⟨ha, hX⟩]))
              have hx0 : ((f.2.2.length : Int) == 0) = true := by rw [hX]; rfl
              clear ha hX
              have HBV := hid ((Below.refl w3.heap.size w3).alloc (Nat.le_refl _) (.cells #[.string b, .string c] 26))
              have HR4 := hid (HR3.out.below HBV.out)
              have nvf := HR4.out.nv
              have lf := lt_of_blk HR3.out.blk
              have HX1 := hid (HR4.out.c1)
              have HXF := hid (HR4.out.fz 1)
              have HLK := hid (show f.2.1.length ≤ 9000 by have := HLN.out.1; have := HK.out; have := HXB.out; omega)
              go_wp2_with (at_builtin; refine wpList_append_lies _ rfl _ _ 22 rfl (resW w).heap.size 26 i0 _ 2 32 Tryz.underlying22 hi0 hz0 hz1 hz2 rfl (by decide) _ f.2.1.length (flatM f.2.1) rfl HR4.out.ov ⟨w3.heap.size, 0, none⟩ 1 1 [.string b, .string c] rfl rfl ?c1 ?c2 (by decide) ?c3 ?c4 ?c5 (w3.heap.size + 1) ?c6 ?c7)
              case c1 => exact news2 _ _ _
              case c2 => exact two_one _ _
              case c3 => have := HLK.out; unfold maxLen; omega
              case c4 => have := HLK.out; omega
              case c5 => exact HR4.out.bl.size
              case c6 => simp
              intro g2 cap2 w5 hown hgrow hat hlt
              have HR5 := hid (HR3.out.req (m := (b, c)) HBV.out hown hgrow (hat.imp id (fun h => h.trans (by simp))))
              have c3 := (hgrow.cell_far ⟨w.heap.size + 1 + 1, 1, none⟩ (by simp; omega) (Ne.symm nvf)).trans HX1.out
              have f3 := (hgrow.frozen_far ⟨w.heap.size + 1 + 1, 1, none⟩ (by simp; omega) (Ne.symm nvf)).trans HXF.out
              clear hown hgrow hat hlt nvf lf f0 f1 f2 ff r0 r1 r2 g0 g1 rf gf d0 m0 m1
              go_wp2_with fail
              go_roundw
              case rel => exact ⟨k + 1, (f.1, f.2.1 ++ [(b, c)], f.2.2), _, _, HK1.out, by go_num, HN, hid ⟨by rw [List.length_append]; have := HLN.out.1; simp; omega, by have := HLN.out.2; exact Nat.le_succ_of_le this⟩, HR5⟩
              case measure => have := HK.out; have := HXB.out; simp [intOf]; omega
            · have HV := hid (HBD2.out (by rw [HS1.out, if_neg (fun h => hX h.2), if_neg (by rw [ha]; decide)]))
              have hx0 : ((f.2.2.length : Int) == 0) = false := beq_eq_false_iff_ne.2 (by have := List.length_pos_iff.2 hX; omega)
              clear ha hX
              go_wp2_with fail
              refine bodyPost_ret (v := .tuple #[.agg #[.string ⟨#[]⟩, .slice none 0 0, .slice none 0 0], .agg #[.int .i64 1, .int .i64 k]]) (by simp [results, Tryz.results13, go_sem, r0, r1, r2, g0, g1]) rfl ?_
              exact rdq_bad (HB0.out.trans (HR3.out.bl.mono HB0.out.size)) HV.out rfl
          · have hqr : (a.toList == [114, 101, 113, 117, 105, 114, 101]) = false := word_no ha
            by_cases he : a.data.toList = wExclude
            · have HN := hid (HST.out _ (by rw [HS1.out, if_neg (fun h => ha h.1), if_pos he]))
              have hqe : (a.toList == [101, 120, 99, 108, 117, 100, 101]) = true := word_yes he
              clear ha he
              have HBV := hid ((Below.refl w3.heap.size w3).alloc (Nat.le_refl _) (.cells #[.string b, .string c] 26))
              have HR4 := hid (HR3.out.below HBV.out)
              have nvf := HR4.out.nu
              have lf := lt_of_blk HR3.out.blk
              have HX1 := hid (HR4.out.c2)
              have HXF := hid (HR4.out.fz 2)
              have HLK := hid (show f.2.2.length ≤ 9000 by have := HLN.out.2; have := HK.out; have := HXB.out; omega)
              go_wp2_with (at_builtin; refine wpList_append_lies _ rfl _ _ 22 rfl (resW w).heap.size 26 i0 _ 2 32 Tryz.underlying22 hi0 hz0 hz1 hz2 rfl (by decide) _ f.2.2.length (flatM f.2.2) rfl HR4.out.ou ⟨w3.heap.size, 0, none⟩ 1 1 [.string b, .string c] rfl rfl ?e1 ?e2 (by decide) ?e3 ?e4 ?e5 (w3.heap.size + 1) ?e6 ?e7)
              case e1 => exact news2 _ _ _
              case e2 => exact two_one _ _
              case e3 => have := HLK.out; unfold maxLen; omega
              case e4 => have := HLK.out; omega
              case e5 => exact HR4.out.bl.size
              case e6 => simp
              intro g2 cap2 w5 hown hgrow hat hlt
              have HR5 := hid (HR3.out.exc (m := (b, c)) HBV.out hown hgrow (hat.imp id (fun h => h.trans (by simp))))
              have c3 := (hgrow.cell_far ⟨w.heap.size + 1 + 1, 2, none⟩ (by simp; omega) (Ne.symm nvf)).trans HX1.out
              have f3 := (hgrow.frozen_far ⟨w.heap.size + 1 + 1, 2, none⟩ (by simp; omega) (Ne.symm nvf)).trans HXF.out
              clear hown hgrow hat hlt nvf lf f0 f1 f2 ff r0 r1 r2 g0 g1 rf gf d0 m0 m1
              go_wp2_with fail
              go_roundw
              case rel => exact ⟨k + 1, (f.1, f.2.1, f.2.2 ++ [(b, c)]), _, _, HK1.out, by go_num, HN, hid ⟨by have := HLN.out.1; exact Nat.le_succ_of_le this, by rw [List.length_append]; have := HLN.out.2; simp; omega⟩, HR5⟩
              case measure => have := HK.out; have := HXB.out; simp [intOf]; omega
            · have HV := hid (HBD2.out (by rw [HS1.out, if_neg (fun h => ha h.1), if_neg he]))
              have hqe : (a.toList == [101, 120, 99, 108, 117, 100, 101]) = false := word_no he
              clear ha he
              go_wp2_with fail
              refine bodyPost_ret (v := .tuple #[.agg #[.string ⟨#[]⟩, .slice none 0 0, .slice none 0 0], .agg #[.int .i64 1, .int .i64 k]]) (by simp [results, Tryz.results13, go_sem, r0, r1, r2, g0, g1]) rfl ?_
              exact rdq_bad (HB0.out.trans (HR3.out.bl.mono HB0.out.size)) HV.out rfl
        · have HV := hid (HBD2.out (step1_bad h00 (by rw [HYL.out]; exact h3)))
          have h3n : ((Y.length : Int) != 3) = true := bne_iff_ne.2 (by omega)
          clear h3 h00
          go_wp2_with fail
          refine bodyPost_ret (v := .tuple #[.agg #[.string ⟨#[]⟩, .slice none 0 0, .slice none 0 0], .agg #[.int .i64 1, .int .i64 k]]) (by simp [results, Tryz.results13, go_sem, r0, r1, r2, g0, g1]) rfl ?_
          exact rdq_bad (HB0.out.trans (HR2.out.bl.mono HB0.out.size)) HV.out rfl
theorem rdf_any (s : ByteArray) (w : World) : Calls Tryz.prog 13 #[.string s] w fun e w' => RdQ s.data.toList w w' e := by
  by_cases h : 8000 < s.size
  · exact rdf_long s w h
  · exact rdf_short s w h
/-- What Read answers, beside it. -/
theorem fread_out (s : ByteArray) (A : Nat → Addr) (m : Int) (w : World) (S : Te w A m) : Calls Tryz.prog 12 #[.string s] w fun e w' =>
    ∃ v u x, e = .returned (.tuple #[.agg #[.string (readOut s.data.toList).2.1, v, u], x]) ∧ ErrAt w' A x (readOut s.data.toList).1.1 (readOut s.data.toList).1.2 ∧ MsAt w' v (readOut s.data.toList).2.2.1 ∧ MsAt w' u (readOut s.data.toList).2.2.2 ∧ Below w.heap.size w w' := by
  refine (fread_any s A m w S).mono fun e w' ⟨P, v, u, x, h1, h2, h3⟩ => ?_
  unfold readOut
  cases hr : readF s.data.toList with
  | error co =>
    rw [hr] at h3
    obtain ⟨h4, _, rfl, rfl, rfl⟩ := h3
    exact ⟨_, _, x, h1, h4, ms_nil _, ms_nil _, h2⟩
  | ok f =>
    rw [hr] at h3
    obtain ⟨rfl, rfl, h4, h5⟩ := h3
    exact ⟨_, _, _, h1, rfl, h4, h5, h2⟩
end Ve
end Go.Proofs.YtjphlclhkaoipaaGreatDoor

/-
  The order on versions turns round, and is nought for one version alone (plain). No Go here.
-/
namespace Go.Proofs.YtjphlclhkaoipaaGreatDoor
namespace Ve

theorem ordPart_swap (a b : List UInt8) : ordPart b a = -ordPart a b := by
  unfold ordPart
  cases h1 : digs a <;> cases h2 : digs b
  · simp only [Bool.false_eq_true, if_false]; exact cb_swap a b
  · simp
  · simp
  · simp only [if_true]; exact fst_swap (ci_swap _ _) (cb_swap _ _)
theorem ordPart_zero (a b : List UInt8) : ordPart a b = 0 ↔ a = b := by
  unfold ordPart
  cases h1 : digs a <;> cases h2 : digs b
  · simp only [Bool.false_eq_true, if_false]; exact cb_zero a b
  · simp only [Bool.false_eq_true, if_false, if_true]
    constructor
    · intro h; cases h
    · intro h; subst h; rw [h1] at h2; cases h2
  · simp only [Bool.false_eq_true, if_false, if_true]
    constructor
    · intro h; cases h
    · intro h; subst h; rw [h1] at h2; cases h2
  · simp only [if_true]
    rw [fst_zero, cb_zero]
    constructor
    · intro h; exact h.2
    · intro h; subst h; exact ⟨ci_self _, rfl⟩
theorem ordPs_swap : ∀ (a b : List (List UInt8)), ordPs b a = -ordPs a b
  | [], [] => rfl
  | [], _ :: _ => rfl
  | _ :: _, [] => rfl
  | x :: xs, y :: ys => fst_swap (ordPart_swap x y) (ordPs_swap xs ys)
theorem ordPs_zero : ∀ (a b : List (List UInt8)), ordPs a b = 0 ↔ a = b
  | [], [] => by simp [ordPs]
  | [], _ :: _ => by simp [ordPs]
  | _ :: _, [] => by simp [ordPs]
  | x :: xs, y :: ys => by
    unfold ordPs
    rw [fst_zero, ordPart_zero, ordPs_zero xs ys]
    simp
theorem ordPre_swap (a b : List (List UInt8)) : ordPre b a = -ordPre a b := by
  unfold ordPre
  by_cases h : a = [] ∨ b = []
  · rw [if_pos h, if_pos h.symm]; exact ci_swap _ _
  · rw [if_neg h, if_neg (fun k => h k.symm)]; exact ordPs_swap a b
theorem ordPre_zero (a b : List (List UInt8)) : ordPre a b = 0 ↔ a = b := by
  unfold ordPre
  by_cases h : a = [] ∨ b = []
  · rw [if_pos h, ci_zero]
    constructor
    · intro e
      rcases h with h | h
      · subst h; simp at e; exact e.symm
      · subst h; simp at e; exact List.length_eq_zero_iff.1 (by omega)
    · intro e; subst e; rfl
  · rw [if_neg h]; exact ordPs_zero a b
theorem ordV_swap (s t : List UInt8) : ordV t s = -ordV s t :=
  fst_swap (ci_swap _ _) (fst_swap (ci_swap _ _) (fst_swap (ci_swap _ _) (ordPre_swap _ _)))
theorem ordV_zero {s t : List UInt8} (hs : verErr s = 0) (ht : verErr t = 0) : ordV s t = 0 ↔ s = t := by
  unfold ordV ordN
  rw [fst_zero, fst_zero, fst_zero, ci_zero, ci_zero, ci_zero, ordPre_zero]
  constructor
  · rintro ⟨h0, h1, h2, h3⟩
    rw [← text_back s hs, ← text_back t ht, h0, h1, h2, h3]
  · intro h; subst h; exact ⟨rfl, rfl, rfl, rfl⟩
theorem ordV_range (s t : List UInt8) : ordV s t = -1 ∨ ordV s t = 0 ∨ ordV s t = 1 := ordN_range _ _ _ _ _ _ _ _
end Ve
end Go.Proofs.YtjphlclhkaoipaaGreatDoor

/-
  What a right module's text holds (plain): one sign between path and version, so it is read as it was written; of two unlike right ones one is ahead. No Go here.
-/
namespace Go.Proofs.YtjphlclhkaoipaaGreatDoor
namespace Ve

theorem mem_cut (c x : UInt8) : ∀ l : List UInt8, x ∈ l → x = c ∨ ∃ p, p ∈ cutAt c l ∧ x ∈ p
  | [], h => by cases h
  | b :: l, h => by
    obtain ⟨y, r, e⟩ : ∃ y r, cutAt c l = y :: r := by
      cases e : cutAt c l with
      | nil => exact absurd e (cutAt_ne c l)
      | cons y r => exact ⟨y, r, rfl⟩
    unfold cutAt
    by_cases hb : b = c
    · rw [if_pos hb]
      rcases List.mem_cons.1 h with h | h
      · exact Or.inl (h.trans hb)
      · rcases mem_cut c x l h with h | ⟨p, hp, hx⟩
        · exact Or.inl h
        · exact Or.inr ⟨p, List.mem_cons_of_mem _ hp, hx⟩
    · rw [if_neg hb, e]
      rcases List.mem_cons.1 h with h | h
      · exact Or.inr ⟨b :: y, by simp [ahead], by simp [h]⟩
      · rcases mem_cut c x l h with h | ⟨p, hp, hx⟩
        · exact Or.inl h
        · rw [e] at hp
          rcases List.mem_cons.1 hp with hp | hp
          · exact Or.inr ⟨b :: y, by simp [ahead], by rw [← hp]; exact List.mem_cons_of_mem _ hx⟩
          · exact Or.inr ⟨p, by simp [ahead, hp], hx⟩
theorem mem_one {c x : UInt8} {l : List UInt8} (h : x ∈ l) : x = c ∨ x ∈ (one c l).1 ∨ ((one c l).2.2 = true ∧ x ∈ (one c l).2.1) := by
  cases e : (one c l).2.2
  · rw [one_none e]; exact Or.inr (Or.inl h)
  · have h2 := h
    rw [one_back e] at h2
    rcases List.mem_append.1 h2 with h3 | h3
    · exact Or.inr (Or.inl h3)
    · rcases List.mem_cons.1 h3 with h4 | h4
      · exact Or.inl h4
      · exact Or.inr (Or.inr ⟨rfl, h4⟩)
theorem path_no {l : List UInt8} {c : UInt8} (h : pathErr l = 0) (hc : el c = false) (h47 : c ≠ 47) : c ∉ l := by
  intro hx
  have hb : badE l = false := by
    cases e : badE l
    · rfl
    · unfold pathErr at h; rw [e] at h; simp at h
  rcases mem_cut 47 c l hx with h | ⟨p, hp, hx⟩
  · exact h47 h
  · have h1 := List.any_eq_false.1 hb p hp
    have ok : elemOk p = true := by simpa using h1
    unfold elemOk at ok
    simp only [Bool.and_eq_true] at ok
    have h2 := List.all_eq_true.1 ok.2.2 c hx
    rw [hc] at h2; cases h2
theorem ver_whole {l : List UInt8} (h : verErr l = 0) : marked l = true ∧ numsErr (coreOf l) = 0 ∧ pre (preOf l) = 0 := by
  unfold verErr at h
  by_cases hc : marked l = false ∨ (coreOf l).length ≠ 3
  · rw [if_pos hc] at h; omega
  rw [if_neg hc] at h
  have hm : marked l = true := by
    cases e : marked l
    · exact absurd (Or.inl e) hc
    · rfl
  refine ⟨hm, ?_⟩
  cases e : hasPre l
  · rw [e] at h
    exact ⟨h, by unfold preOf; rw [e]; rfl⟩
  · rw [e] at h
    have h' : worse (numsErr (coreOf l)) (pre (preOf l)) = 0 := h
    unfold worse at h'
    by_cases q : numsErr (coreOf l) = 1 ∨ pre (preOf l) = 0
    · rw [if_pos q] at h'
      refine ⟨h', ?_⟩
      rcases q with q | q
      · omega
      · exact q
    · rw [if_neg q] at h'; exact absurd (Or.inr h') q
theorem ver_no {l : List UInt8} {c : UInt8} (h : verErr l = 0) (hp : par c = false) (hd : dig c = false) (h1 : c ≠ 118) (h2 : c ≠ 46) (h3 : c ≠ 45) : c ∉ l := by
  intro hx
  obtain ⟨hm, hn, hpr⟩ := ver_whole h
  have hr : c ∈ restOf l := by
    rw [rest_drop hm]
    cases l with
    | nil => cases hx
    | cons b r =>
      have hb : b = 118 := by simpa [marked] using hm
      rcases List.mem_cons.1 hx with e | e
      · exact absurd (e.trans hb) h1
      · simpa using e
  rcases mem_one (c := 45) hr with e | e | ⟨e0, e⟩
  · exact h3 e
  · rcases mem_cut 46 c _ e with e | ⟨p, hp1, hx1⟩
    · exact h2 e
    · have h4 := (num0 (ncode0 hn p hp1)).2.2.2
      have h5 := List.all_eq_true.1 h4 c hx1
      rw [hd] at h5; cases h5
  · rcases mem_cut 46 c _ e with e | ⟨p, hp1, hx1⟩
    · exact h2 e
    · have hpo : preOf l = cutAt 46 (one 45 (restOf l)).2.1 := by unfold preOf; rw [if_pos (show hasPre l = true from e0)]
      rw [← hpo] at hp1
      have h4 := pre_parts hpr p hp1
      unfold part at h4
      split at h4
      · cases h4
      · rename_i hn1
        have h6 : allPar p = true := by
          cases e : allPar p
          · exact absurd (Or.inr (Or.inr e)) hn1
          · rfl
        have h5 := List.all_eq_true.1 h6 c hx1
        rw [hp] at h5; cases h5

theorem mod_right {p v : List UInt8} (h : modErr p v = 0) : pathErr p = 0 ∧ verErr v = 0 := by
  unfold modErr at h
  by_cases h0 : pathErr p = 0
  · rw [if_pos h0] at h
    by_cases h1 : verErr v = 0
    · exact ⟨h0, h1⟩
    · rw [if_neg h1] at h; exact absurd h h1
  · rw [if_neg h0] at h; exact absurd h h0
end Ve
end Go.Proofs.YtjphlclhkaoipaaGreatDoor

/-
  Plain facts of files: a file that is right is read as it was written; what is set is there once, and dropped it is not.
-/
namespace Go.Proofs.YtjphlclhkaoipaaGreatDoor
open Go.RowKit
namespace Ve

theorem codes_ok {p : ByteArray} {R X : List Bm} (h : (fileF p R X).1 = 0) : pathErr p.data.toList = 0 ∧ (∀ m, m ∈ R → mErr m = 0) ∧ (∀ m, m ∈ X → mErr m = 0) := by
  by_cases h1 : pathErr p.data.toList = 0
  · by_cases h2 : 20 < R.length ∨ 20 < X.length
    · rw [fileF_full h1 h2] at h; cases h
    · cases h3 : fstE (reqE p R) R.length with
      | some i =>
        rw [fileF_req h1 h2 h3] at h
        exact absurd h (fstE_of_some h3).2.1
      | none =>
        cases h4 : fstE (exE X) X.length with
        | some i =>
          rw [fileF_ex h1 h2 h3 h4] at h
          exact absurd h (fstE_of_some h4).2.1
        | none =>
          refine ⟨h1, fun m hm => ?_, fun m hm => ?_⟩
          · obtain ⟨j, hj, rfl⟩ := List.getElem_of_mem hm
            have h5 := fstE_of_none h3 j hj
            unfold reqE at h5
            rw [List.getElem?_eq_getElem hj] at h5
            unfold reqW at h5
            simp only at h5
            by_cases h6 : mErr R[j] = 0
            · exact h6
            · rw [if_neg h6] at h5; exact absurd h5 h6
          · obtain ⟨j, hj, rfl⟩ := List.getElem_of_mem hm
            have h5 := fstE_of_none h4 j hj
            unfold exE at h5
            rw [List.getElem?_eq_getElem hj] at h5
            unfold exW at h5
            simp only at h5
            by_cases h6 : mErr X[j] = 0
            · exact h6
            · rw [if_neg h6] at h5; exact absurd h5 h6
  · rw [fileF_path h1] at h; exact absurd h h1
theorem clean_of {m : Bm} (h : mErr m = 0) : clean m := by
  obtain ⟨h1, h2⟩ := mod_right h
  exact ⟨⟨path_no h1 (by decide) (by decide), ver_no h2 (by decide) (by decide) (by decide) (by decide) (by decide)⟩, path_no h1 (by decide) (by decide), ver_no h2 (by decide) (by decide) (by decide) (by decide) (by decide)⟩
theorem back_read {p : ByteArray} {R X : List Bm} (h : (fileF p R X).1 = 0) : readL (fText (p, R, X)) = .ok (p, R, X) := by
  obtain ⟨h1, h2, h3⟩ := codes_ok h
  exact read_back (f := (p, R, X)) ⟨path_no h1 (by decide) (by decide), path_no h1 (by decide) (by decide)⟩ (fun m hm => clean_of (h2 m hm)) (fun m hm => clean_of (h3 m hm))
theorem back_len {p : ByteArray} {R X : List Bm} (h : (fileF p R X).1 = 0) (hp : p.size ≤ 90) (hR : okL R = true) (hX : okL X = true) : (fText (p, R, X)).length ≤ 8000 := by
  obtain ⟨_, h1, h2⟩ := rising_ok h
  refine fText_len (f := (p, R, X)) hp h1 h2 (fun m hm => ?_)
  rcases List.mem_append.1 hm with hm | hm
  · exact (okL_iff hR).2 m hm
  · exact (okL_iff hX).2 m hm
/-- In rising modules a path tells a module. -/
theorem rising_one {R : List Bm} (h : rising R) {a b : Bm} (ha : a ∈ R) (hb : b ∈ R) (he : a.1 = b.1) : a = b := by
  obtain ⟨i, hi, rfl⟩ := List.getElem_of_mem ha
  obtain ⟨j, hj, rfl⟩ := List.getElem_of_mem hb
  rcases Nat.lt_trichotomy i j with hh | hh | hh
  · have := (List.pairwise_iff_getElem.1 h) i j hi hj hh
    rw [he, lt_irrefl] at this; cases this
  · subst hh; rfl
  · have := (List.pairwise_iff_getElem.1 h) j i hj hi hh
    rw [he, lt_irrefl] at this; cases this
theorem set_mem (R : List Bm) (m : Bm) : m ∈ setR R m := by unfold setR; simp
theorem fp_set {R : List Bm} {m : Bm} {r : Int} (hr : rising (setR R m)) (h : FpP (setR R m) m.1 r) : ∃ k : Nat, r = k ∧ ∃ hk : k < (setR R m).length, (setR R m)[k] = m := by
  rcases h with ⟨_, h⟩ | ⟨k, e, hk, h⟩
  · obtain ⟨j, hj, e⟩ := List.getElem_of_mem (set_mem R m)
    exact absurd (by rw [e]) (h j hj)
  · exact ⟨k, e, hk, rising_one hr (List.getElem_mem hk) (set_mem R m) h⟩
theorem len_set {R : List Bm} {m : Bm} {r : Int} (hr : rising R) (h : FpP R m.1 r) : (r = -1 ∧ (setR R m).length = R.length + 1) ∨ (0 ≤ r ∧ (setR R m).length = R.length) := by
  obtain ⟨e, he⟩ := three_R hr m.1
  have hl : R.length = (loR R m.1).length + ((eqR R m.1).length + (hiR R m.1).length) := by
    have := congrArg List.length e
    simpa using this
  have hs : (setR R m).length = (loR R m.1).length + ((hiR R m.1).length + 1) := by unfold setR; simp
  rcases h with ⟨e1, h⟩ | ⟨k, e1, hk, h⟩
  · left
    rcases he with ⟨he, _⟩ | ⟨q, he, hq⟩
    · rw [he] at hl
      exact ⟨e1, by rw [hs, hl]; simp; omega⟩
    · have hm : q ∈ R := (List.mem_filter.1 (show q ∈ eqR R m.1 by rw [he]; simp)).1
      obtain ⟨j, hj, ej⟩ := List.getElem_of_mem hm
      exact absurd (by rw [ej]; exact hq) (h j hj)
  · right
    rcases he with ⟨_, he⟩ | ⟨q, he, _⟩
    · exact absurd h (he _ (List.getElem_mem hk))
    · rw [he] at hl
      exact ⟨by omega, by rw [hs, hl]; simp; omega⟩
theorem eq_set (R : List Bm) (m : Bm) : (eqR (setR R m) m.1).isEmpty = false := by
  have : m ∈ eqR (setR R m) m.1 := List.mem_filter.2 ⟨set_mem R m, decide_eq_true rfl⟩
  cases h : eqR (setR R m) m.1 with
  | nil => rw [h] at this; cases this
  | cons a r => rfl
theorem len_drop (R : List Bm) (m : Bm) : (dropR R m.1).length + 1 = (setR R m).length := by unfold dropR setR; simp; omega
theorem fp_drop {R : List Bm} {p : ByteArray} {r : Int} (h : FpP (dropR R p) p r) : r = -1 := by
  rcases h with ⟨e, _⟩ | ⟨k, _, hk, h⟩
  · exact e
  · exact absurd h (drop_mem.1 (List.getElem_mem hk)).2
theorem fp_each {R : List Bm} {p : ByteArray} {r : Int} {i : Nat} (hr : rising R) (hi : i < R.length) (h : FpP (dropR R p) R[i].1 r) :
    (r = -1 ∧ R[i].1 = p) ∨ (R[i].1 ≠ p ∧ ∃ k : Nat, r = k ∧ ∃ hk : k < (dropR R p).length, (dropR R p)[k] = R[i]) := by
  rcases h with ⟨e, h⟩ | ⟨k, e, hk, h⟩
  · left
    refine ⟨e, ?_⟩
    by_cases he : R[i].1 = p
    · exact he
    · obtain ⟨j, hj, ej⟩ := List.getElem_of_mem (drop_mem.2 ⟨List.getElem_mem hi, he⟩)
      exact absurd (by rw [ej]) (h j hj)
  · right
    have hm := drop_mem.1 (List.getElem_mem hk)
    have e2 := rising_one hr hm.1 (List.getElem_mem hi) h
    exact ⟨by rw [← h]; exact hm.2, k, e, hk, e2⟩
end Ve
end Go.Proofs.YtjphlclhkaoipaaGreatDoor

/-
  What the document's answer says of a module that is set (SetOf); nothing old in memory turns.
-/
namespace Go.Proofs.YtjphlclhkaoipaaGreatDoor
open Go.RowKit
namespace Ve

/-- What SetOf and DropOf answer. -/
def SetQ (p : ByteArray) (X : List Bm) (r : Except Nat (List Bm)) (w w' : World) (e : Ending) : Prop :=
  ∃ v u, e = .returned (.tuple #[.agg #[.string (outS p X r).2.1, v, u], .int .i64 ((outS p X r).1 : Nat)]) ∧ MsAt w' v (outS p X r).2.2.1 ∧ MsAt w' u (outS p X r).2.2.2 ∧ Below w.heap.size w w'
theorem rel_app2 {B : Nat} {w wr w2 w3 : World} {e : TypeId} {v : Value} {n : Nat} {xs : List Value} {o : Obj} (hB : B ≤ wr.heap.size) (hb : Below B w wr) (hown : wr.ownsRow B e 2 v n xs) (hb2 : Below wr.heap.size wr w2)
    (hg : (w2.alloc o).grownBy w3 v.ownBlock) : Below B w w3 := by
  have h2 : Below B w w2 := hb.trans (hb2.mono hB)
  have h3 : Below B w (w2.alloc o) := h2.alloc (Nat.le_trans hB hb2.size) o
  exact h3.grown hg (by simp; exact Nat.le_succ_of_le (Nat.le_trans hB hb2.size)) (fun k hk => (hown.lt k hk).1)
/-- The blocks that SetOf lays first. -/
def setW (w : World) (p : ByteArray) (v u : Value) (m : Bm) : World :=
  ((w.alloc (.cells #[.string p, v, u] 24)).alloc (.cells #[.string m.1, .string m.2] 26)).alloc (.cells #[.string ⟨#[]⟩, .slice none 0 0, .slice none 0 0] 24)
theorem setW_below (w : World) (p : ByteArray) (v u : Value) (m : Bm) : Below w.heap.size w (setW w p v u m) :=
  ((((Below.refl w.heap.size w).alloc (Nat.le_refl _) _).alloc (by simp) _).alloc (by simp; omega) _)
theorem setW_f (w : World) (p : ByteArray) (v u : Value) (m : Bm) : (setW w p v u m).heap[w.heap.size]? = some (.cells #[.string p, v, u] 24 (0, 0)) :=
  heap_old _ _ (heap_old _ _ (heap_new w _))
theorem setW_m (w : World) (p : ByteArray) (v u : Value) (m : Bm) : (setW w p v u m).heap[w.heap.size + 1]? = some (.cells #[.string m.1, .string m.2] 26 (0, 0)) := by
  have hz : (w.alloc (.cells #[.string p, v, u] 24)).heap.size = w.heap.size + 1 := by simp
  have := heap_new (w.alloc (.cells #[.string p, v, u] 24)) (.cells #[.string m.1, .string m.2] 26)
  rw [hz] at this
  exact heap_old _ _ this
theorem setW_r (w : World) (p : ByteArray) (v u : Value) (m : Bm) : (setW w p v u m).heap[w.heap.size + 1 + 1]? = some (.cells #[.string ⟨#[]⟩, .slice none 0 0, .slice none 0 0] 24 (0, 0)) := by
  have hz : ((w.alloc (.cells #[.string p, v, u] 24)).alloc (.cells #[.string m.1, .string m.2] 26)).heap.size = w.heap.size + 1 + 1 := by simp
  have := heap_new ((w.alloc (.cells #[.string p, v, u] 24)).alloc (.cells #[.string m.1, .string m.2] 26)) (.cells #[.string ⟨#[]⟩, .slice none 0 0, .slice none 0 0] 24)
  rw [hz] at this
  exact this

set_option maxHeartbeats 2000000 in
set_option maxRecDepth 100000 in
theorem setOf_bad (p : ByteArray) (R X : List Bm) (v u : Value) (m : Bm) (w : World) (hp : p.size < 999999) (F : Fl w R X v u) (h : (fileF p R X).1 ≠ 0) :
    Calls Tryz.prog 16 #[.agg #[.string p, v, u], .agg #[.string m.1, .string m.2]] w fun e w' => SetQ p X (setF p R X m) w w' e := by
  obtain ⟨⟨vp, vc, rfl⟩, up, uc, rfl⟩ := F.slices
  have HSF := hid (show setF p R X m = .error (fileF p R X).1 by unfold setF; rw [if_neg h])
  have HB0 := hid (setW_below w p (.slice vp R.length vc) (.slice up X.length uc) m)
  have HFF := hid (ffault_any p R X _ _ _ hp (F.below HB0.out))
  have HRB := hid (setW_r w p (.slice vp R.length vc) (.slice up X.length uc) m)
  have hpos : (0 : Int) < ((fileF p R X).1 : Int) := by omega
  have HNE := hid h
  unfold faultV at HFF
  generalize (fileF p R X).1 = z at *
  generalize atOf (fileF p R X).2 = y at *
  clear F h
  unfold setW at HB0 HFF HRB
  go_enter Tryz.func16, Tryz.ntmps16
  go_wp2_with fail
  refine HFF.out.mono ?_
  rintro e w1 ⟨rfl, hb⟩
  have HB1 := hid (HB0.out.trans (hb.mono HB0.out.size))
  have HR1 := hid (blk_keep HRB.out hb)
  clear hb
  have HBE := hid ((Below.refl w1.heap.size w1).alloc (Nat.le_refl _) (.cells #[.int .i64 z, .int .i64 y] 35))
  have HB2 := hid (HB1.out.trans (HBE.out.mono HB1.out.size))
  have HR2 := hid (blk_keep HR1.out HBE.out)
  have r0 : (w1.alloc (.cells #[.int .i64 z, .int .i64 y] 35)).cell? ⟨w.heap.size + 1 + 1, 0, none⟩ = some (.string ⟨#[]⟩) := by rw [Lib.cell_of_heap HR2.out]; rfl
  have r1 : (w1.alloc (.cells #[.int .i64 z, .int .i64 y] 35)).cell? ⟨w.heap.size + 1 + 1, 1, none⟩ = some (.slice none 0 0) := by rw [Lib.cell_of_heap HR2.out]; rfl
  have r2 : (w1.alloc (.cells #[.int .i64 z, .int .i64 y] 35)).cell? ⟨w.heap.size + 1 + 1, 2, none⟩ = some (.slice none 0 0) := by rw [Lib.cell_of_heap HR2.out]; rfl
  have rf := fun o => Lib.frozen_of_heap HR2.out o
  have e0 : (w1.alloc (.cells #[.int .i64 z, .int .i64 y] 35)).cell? ⟨w1.heap.size, 0, none⟩ = some (.int .i64 z) := by simp
  have hn1 : ¬ w1.heap.size = w.heap.size + 1 + 1 := by have := lt_of_blk HR1.out; omega
  have hn2 : ¬ w.heap.size + 1 + 1 = w1.heap.size := by have := lt_of_blk HR1.out; omega
  go_wp2_with fail
  generalize w1.alloc (.cells #[.int .i64 z, .int .i64 y] 35) = wE at *
  go_region
  go_wp2_with fail
  refine bodyPost_ret (v := .tuple #[.agg #[.string ⟨#[]⟩, .slice none 0 0, .slice none 0 0], .int .i64 z]) (by simp [results, Tryz.results16, go_sem, r0, r1, r2]) rfl ?_
  rw [HSF.out]
  exact ⟨_, _, rfl, ms_nil _, ms_nil _, below_drawn_of (put3_below HB2.out (show w.heap.size ≤ w.heap.size + 1 + 1 by omega)) 1⟩
theorem own_next {W : World} {B : Nat} {e : TypeId} {v : Value} {L L' : List Bm} {x : Bm} (h : W.ownsRow B e 2 v (L.length + 1) (flatM L ++ [.string x.1, .string x.2])) (hl : L' = L ++ [x]) : W.ownsRow B e 2 v L'.length (flatM L') := by
  subst hl
  rw [List.length_append, flatM_app]; exact h
theorem geq_is (a b : ByteArray) (X : World) : (binOp BinOp.geq 9 (.string a) (.string b)).run Tryz.prog X = .ok (.bool (!lt a b)) X := by rw [← noLess_lt, ← noLess_is]; rfl

set_option maxHeartbeats 8000000 in
set_option maxRecDepth 100000 in
theorem setOf_ok (p : ByteArray) (R X : List Bm) (v u : Value) (m : Bm) (w : World) (hp : p.size < 999999) (F : Fl w R X v u) (h : (fileF p R X).1 = 0) (hm : m.1.size < 999999 ∧ m.2.size < 999999) :
    Calls Tryz.prog 16 #[.agg #[.string p, v, u], .agg #[.string m.1, .string m.2]] w fun e w' => SetQ p X (setF p R X m) w w' e := by
  obtain ⟨i0, hi0, hz0, hz1, hz2⟩ := info_parts infoMod
  obtain ⟨⟨vp, vc, rfl⟩, up, uc, rfl⟩ := F.slices
  have HSF := hid (show setF p R X m = if (fileF p (setR R m) X).1 = 0 then .ok (setR R m) else .error (fileF p (setR R m) X).1 by unfold setF; rw [if_pos h])
  have HRI := hid (rising_ok h).1
  have hRn : R.length ≤ 20 := (rising_ok h).2.1
  have HB0 := hid (setW_below w p (.slice vp R.length vc) (.slice up X.length uc) m)
  have HFF := hid (ffault_any p R X _ _ _ hp (F.below HB0.out))
  have HRB := hid (setW_r w p (.slice vp R.length vc) (.slice up X.length uc) m)
  have HFB := hid (setW_f w p (.slice vp R.length vc) (.slice up X.length uc) m)
  have HMB := hid (setW_m w p (.slice vp R.length vc) (.slice up X.length uc) m)
  have HFL := hid F
  have HM := hid hm
  unfold faultV at HFF
  rw [h] at HFF
  generalize atOf (fileF p R X).2 = y at *
  clear F h hm
  unfold setW at HB0 HFF HRB HFB HMB
  go_enter Tryz.func16, Tryz.ntmps16
  go_wp2_with fail
  refine HFF.out.mono ?_
  rintro e w1 ⟨rfl, hb⟩
  have HB1 := hid (HB0.out.trans (hb.mono HB0.out.size))
  have HR1 := hid (blk_keep HRB.out hb)
  have HF1 := hid (blk_keep HFB.out hb)
  have HM1 := hid (blk_keep HMB.out hb)
  have hlt1 : w.heap.size + 1 + 1 < w1.heap.size := lt_of_blk HR1.out
  clear hb
  have HBE := hid ((Below.refl w1.heap.size w1).alloc (Nat.le_refl _) (.cells #[.int .i64 0, .int .i64 y] 35))
  have HEN := hid (heap_new w1 (.cells #[.int .i64 0, .int .i64 y] 35))
  go_wp2_with fail
  generalize hwE : w1.alloc (.cells #[.int .i64 0, .int .i64 y] 35) = wE at *
  have HB2 := hid (HB1.out.trans (HBE.out.mono HB1.out.size))
  have HR2 := hid (blk_keep HR1.out HBE.out)
  have HF2 := hid (blk_keep HF1.out HBE.out)
  have HM2 := hid (blk_keep HM1.out HBE.out)
  have HFE := hid (HFL.out.below HB2.out)
  clear hwE
  go_loopw [7, 8, 9] (fun ov dv iv wr => ∃ k : Nat, k ≤ R.length ∧ iv = .int .i64 k ∧ dv = .bool (stD (R.take k) m) ∧ Hid (wr.ownsRow wE.heap.size 26 2 ov (stO (R.take k) m).length (flatM (stO (R.take k) m))) ∧ Hid (Below wE.heap.size wE wr)) (fun _ _ iv _ => R.length - (intOf iv).toNat)
  case atStart => exact ⟨0, Nat.zero_le _, rfl, rfl, hid (World.ownsRow_nil _ _ _ _), hid (Below.refl _ _)⟩
  case round =>
    obtain ⟨k, hk, rfl, rfl, HO, HB⟩ := hrel
    have HFw := hid (blk_keep HF2.out HB.out)
    have HMw := hid (blk_keep HM2.out HB.out)
    have f0 : wr.cell? ⟨w.heap.size, 0, none⟩ = some (.string p) := by rw [Lib.cell_of_heap HFw.out]; rfl
    have f1 : wr.cell? ⟨w.heap.size, 1, none⟩ = some (.slice vp R.length vc) := by rw [Lib.cell_of_heap HFw.out]; rfl
    have f2 : wr.cell? ⟨w.heap.size, 2, none⟩ = some (.slice up X.length uc) := by rw [Lib.cell_of_heap HFw.out]; rfl
    have m0 : wr.cell? ⟨w.heap.size + 1, 0, none⟩ = some (.string m.1) := by rw [Lib.cell_of_heap HMw.out]; rfl
    have m1 : wr.cell? ⟨w.heap.size + 1, 1, none⟩ = some (.string m.2) := by rw [Lib.cell_of_heap HMw.out]; rfl
    have HLN := hid (show (stO (R.take k) m).length ≤ 50 by have := stO_len (R.take k) m; rw [List.length_take] at this; omega)
    by_cases hlt : k < R.length
    · obtain ⟨b, o, rfl, hc⟩ := HFE.out.r.at (by omega)
      have HXC := hid (hc k hlt)
      have x0 := cell_below HB.out (hc k hlt).1
      have x1 := cell_below HB.out (hc k hlt).2
      have hkI : (k : Int) < (R.length : Int) := by omega
      have HLT := hid hlt
      have HTK := hid (show R.take (k + 1) = R.take k ++ [R[k]] from List.take_succ_eq_append_getElem hlt)
      have HRT := hid (rising_take HRI.out hlt)
      clear hc
      have HA := hid (fun (h1 : stD (R.take k) m = false) (h2 : lt R[k].1 m.1 = true) => (HTK.out ▸ st_a (x := R[k]) h1 h2 : stD (R.take (k + 1)) m = false ∧ stO (R.take (k + 1)) m = stO (R.take k) m ++ [R[k]]))
      have HBB := hid (fun (h1 : stD (R.take k) m = false) (h2 : R[k].1 = m.1) => (HTK.out ▸ st_b (x := R[k]) h1 h2 : stD (R.take (k + 1)) m = true ∧ stO (R.take (k + 1)) m = stO (R.take k) m ++ [m]))
      have HCC := hid (fun (h1 : stD (R.take k) m = false) (h2 : lt m.1 R[k].1 = true) => (HTK.out ▸ st_c (x := R[k]) h1 h2 : stD (R.take (k + 1)) m = true ∧ stO (R.take (k + 1)) m = stO (R.take k) m ++ [m] ++ [R[k]]))
      have HDD := hid (fun (h1 : stD (R.take k) m = true) => (HTK.out ▸ st_d (x := R[k]) h1 HRT.out : stD (R.take (k + 1)) m = true ∧ stO (R.take (k + 1)) m = stO (R.take k) m ++ [R[k]]))
      clear HTK HRT
      generalize R[k] = x at *
      obtain ⟨xp, xv⟩ := x
      have hge := geq_is xp m.1
      clear hlt
      cases hd : stD (R.take k) m
      · rcases lt_three xp m.1 with hl | hl | hl
        · have HN := hid (HA.out hd hl)
          rw [hl] at hge
          clear hd hl HA HBB HCC HDD
          go_wp2_with fail
          go_quiet (fail)
          have HBd := hid (below_drawn_of HB.out nq)
          have HOd := hid (owns_below HO.out (below_drawn wr nq))
          replace f0 : (wr.drewN nq).cell? ⟨w.heap.size, 0, none⟩ = some (.string p) := f0
          replace f1 : (wr.drewN nq).cell? ⟨w.heap.size, 1, none⟩ = some (.slice (some ⟨b, o, none⟩) R.length vc) := f1
          replace f2 : (wr.drewN nq).cell? ⟨w.heap.size, 2, none⟩ = some (.slice up X.length uc) := f2
          replace m0 : (wr.drewN nq).cell? ⟨w.heap.size + 1, 0, none⟩ = some (.string m.1) := m0
          replace m1 : (wr.drewN nq).cell? ⟨w.heap.size + 1, 1, none⟩ = some (.string m.2) := m1
          replace x0 : (wr.drewN nq).cell? ⟨b, o + k * 2, none⟩ = some (.string xp) := x0
          replace x1 : (wr.drewN nq).cell? ⟨b, o + k * 2 + 1, none⟩ = some (.string xv) := x1
          generalize wr.drewN nq = wq at *
          go_wp2_with (at_builtin; refine wpList_append_own _ rfl _ _ 22 rfl wE.heap.size 26 i0 _ 2 32 Tryz.underlying22 hi0 hz0 hz1 hz2 rfl (by decide) _ _ _ rfl (HOd.out.alloc _) ⟨wq.heap.size, 0, none⟩ 1 1 [.string xp, .string xv] rfl rfl ?c1 ?c2 ?c3 ?c4 ?c5 ?_)
          case c1 => exact news2 _ _ _
          case c2 => exact two_one _ _
          case c3 => have := HLN.out; unfold maxLen; omega
          case c4 => have := HLN.out; omega
          case c5 => have := HBd.out.size; simp; omega
          intro v3 w3 hown hgrow _
          have HR3 := hid (rel_app2 HBd.out.size HBd.out HOd.out (Below.refl _ _) hgrow)
          have HO3 := hid hown
          clear hown hgrow
          go_wp2_with fail
          go_roundw
          case rel => exact ⟨k + 1, by have := HLT.out; omega, by go_num, by rw [HN.out.1], hid (own_next HO3.out HN.out.2), HR3⟩
          case measure => have := HLT.out; simp [intOf]; omega
        · have HN := hid (HBB.out hd hl)
          rw [show lt xp m.1 = false by rw [hl]; exact lt_irrefl _] at hge
          have hq := str_refl m.1
          rw [hl] at x0 hge HXC
          clear hd hl HA HBB HCC HDD
          go_wp2_with fail
          go_quiet (fail)
          have HBd := hid (below_drawn_of HB.out nq)
          have HOd := hid (owns_below HO.out (below_drawn wr nq))
          replace f0 : (wr.drewN nq).cell? ⟨w.heap.size, 0, none⟩ = some (.string p) := f0
          replace f1 : (wr.drewN nq).cell? ⟨w.heap.size, 1, none⟩ = some (.slice (some ⟨b, o, none⟩) R.length vc) := f1
          replace f2 : (wr.drewN nq).cell? ⟨w.heap.size, 2, none⟩ = some (.slice up X.length uc) := f2
          replace m0 : (wr.drewN nq).cell? ⟨w.heap.size + 1, 0, none⟩ = some (.string m.1) := m0
          replace m1 : (wr.drewN nq).cell? ⟨w.heap.size + 1, 1, none⟩ = some (.string m.2) := m1
          replace x0 : (wr.drewN nq).cell? ⟨b, o + k * 2, none⟩ = some (.string m.1) := x0
          replace x1 : (wr.drewN nq).cell? ⟨b, o + k * 2 + 1, none⟩ = some (.string xv) := x1
          generalize wr.drewN nq = wq at *
          go_wp2_with (at_builtin; refine wpList_append_own _ rfl _ _ 22 rfl wE.heap.size 26 i0 _ 2 32 Tryz.underlying22 hi0 hz0 hz1 hz2 rfl (by decide) _ _ _ rfl (HOd.out.alloc _) ⟨wq.heap.size, 0, none⟩ 1 1 [.string m.1, .string m.2] rfl rfl ?c1 ?c2 ?c3 ?c4 ?c5 ?_)
          case c1 => exact news2 _ _ _
          case c2 => exact two_one _ _
          case c3 => have := HLN.out; unfold maxLen; omega
          case c4 => have := HLN.out; omega
          case c5 => have := HBd.out.size; simp; omega
          intro v3 w3 hown hgrow _
          have HR3 := hid (rel_app2 HBd.out.size HBd.out HOd.out (Below.refl _ _) hgrow)
          have HO3 := hid hown
          clear hown hgrow
          clear f0 f1 f2 m0 m1 x0 x1
          have HFw3 := hid (blk_keep HF2.out HR3.out)
          have HMw3 := hid (blk_keep HM2.out HR3.out)
          have f1 : w3.cell? ⟨w.heap.size, 1, none⟩ = some (.slice (some ⟨b, o, none⟩) R.length vc) := by rw [Lib.cell_of_heap HFw3.out]; rfl
          have m0 : w3.cell? ⟨w.heap.size + 1, 0, none⟩ = some (.string m.1) := by rw [Lib.cell_of_heap HMw3.out]; rfl
          have x0 := cell_below HR3.out HXC.out.1
          have x1 := cell_below HR3.out HXC.out.2
          go_wp2_with fail
          go_quiet (fail)
          have HR4 := hid (below_drawn_of HR3.out nq)
          have HO4 := hid (owns_below HO3.out (below_drawn w3 nq))
          replace f1 : (w3.drewN nq).cell? ⟨w.heap.size, 1, none⟩ = some (.slice (some ⟨b, o, none⟩) R.length vc) := f1
          replace x0 : (w3.drewN nq).cell? ⟨b, o + k * 2, none⟩ = some (.string m.1) := x0
          replace x1 : (w3.drewN nq).cell? ⟨b, o + k * 2 + 1, none⟩ = some (.string xv) := x1
          generalize w3.drewN nq = w4 at *
          go_wp2_with fail
          go_roundw
          case rel => exact ⟨k + 1, by have := HLT.out; omega, by go_num, by rw [HN.out.1], hid (own_next HO4.out HN.out.2), HR4⟩
          case measure => have := HLT.out; simp [intOf]; omega
        · have HN := hid (HCC.out hd hl)
          rw [lt_asymm hl] at hge
          have hq := str_ne (show ¬ xp = m.1 from fun e => by rw [e, lt_irrefl] at hl; cases hl)
          clear hd hl HA HBB HCC HDD
          go_wp2_with fail
          go_quiet (fail)
          have HBd := hid (below_drawn_of HB.out nq)
          have HOd := hid (owns_below HO.out (below_drawn wr nq))
          replace f0 : (wr.drewN nq).cell? ⟨w.heap.size, 0, none⟩ = some (.string p) := f0
          replace f1 : (wr.drewN nq).cell? ⟨w.heap.size, 1, none⟩ = some (.slice (some ⟨b, o, none⟩) R.length vc) := f1
          replace f2 : (wr.drewN nq).cell? ⟨w.heap.size, 2, none⟩ = some (.slice up X.length uc) := f2
          replace m0 : (wr.drewN nq).cell? ⟨w.heap.size + 1, 0, none⟩ = some (.string m.1) := m0
          replace m1 : (wr.drewN nq).cell? ⟨w.heap.size + 1, 1, none⟩ = some (.string m.2) := m1
          replace x0 : (wr.drewN nq).cell? ⟨b, o + k * 2, none⟩ = some (.string xp) := x0
          replace x1 : (wr.drewN nq).cell? ⟨b, o + k * 2 + 1, none⟩ = some (.string xv) := x1
          generalize wr.drewN nq = wq at *
          go_wp2_with (at_builtin; refine wpList_append_own _ rfl _ _ 22 rfl wE.heap.size 26 i0 _ 2 32 Tryz.underlying22 hi0 hz0 hz1 hz2 rfl (by decide) _ _ _ rfl (HOd.out.alloc _) ⟨wq.heap.size, 0, none⟩ 1 1 [.string m.1, .string m.2] rfl rfl ?c1 ?c2 ?c3 ?c4 ?c5 ?_)
          case c1 => exact news2 _ _ _
          case c2 => exact two_one _ _
          case c3 => have := HLN.out; unfold maxLen; omega
          case c4 => have := HLN.out; omega
          case c5 => have := HBd.out.size; simp; omega
          intro v3 w3 hown hgrow _
          have HR3 := hid (rel_app2 HBd.out.size HBd.out HOd.out (Below.refl _ _) hgrow)
          have HO3 := hid hown
          clear hown hgrow
          clear f0 f1 f2 m0 m1 x0 x1
          have HFw3 := hid (blk_keep HF2.out HR3.out)
          have HMw3 := hid (blk_keep HM2.out HR3.out)
          have f1 : w3.cell? ⟨w.heap.size, 1, none⟩ = some (.slice (some ⟨b, o, none⟩) R.length vc) := by rw [Lib.cell_of_heap HFw3.out]; rfl
          have m0 : w3.cell? ⟨w.heap.size + 1, 0, none⟩ = some (.string m.1) := by rw [Lib.cell_of_heap HMw3.out]; rfl
          have x0 := cell_below HR3.out HXC.out.1
          have x1 := cell_below HR3.out HXC.out.2
          go_wp2_with fail
          go_quiet (fail)
          have HR4 := hid (below_drawn_of HR3.out nq)
          have HO4 := hid (owns_below HO3.out (below_drawn w3 nq))
          replace f1 : (w3.drewN nq).cell? ⟨w.heap.size, 1, none⟩ = some (.slice (some ⟨b, o, none⟩) R.length vc) := f1
          replace x0 : (w3.drewN nq).cell? ⟨b, o + k * 2, none⟩ = some (.string xp) := x0
          replace x1 : (w3.drewN nq).cell? ⟨b, o + k * 2 + 1, none⟩ = some (.string xv) := x1
          generalize w3.drewN nq = w4 at *
          have HL1 := hid (show (stO (R.take k) m ++ [m]).length ≤ 51 by rw [List.length_append]; exact Nat.succ_le_succ HLN.out)
          replace HO4 := hid (own_next (L := stO (R.take k) m) (x := m) HO4.out rfl)
          go_wp2_with (at_builtin; refine wpList_append_own _ rfl _ _ 22 rfl wE.heap.size 26 i0 _ 2 32 Tryz.underlying22 hi0 hz0 hz1 hz2 rfl (by decide) _ _ _ rfl (HO4.out.alloc _) ⟨w4.heap.size, 0, none⟩ 1 1 [.string xp, .string xv] rfl rfl ?c1 ?c2 ?c3 ?c4 ?c5 ?_)
          case c1 => exact news2 _ _ _
          case c2 => exact two_one _ _
          case c3 => have := HL1.out; unfold maxLen; omega
          case c4 => have := HL1.out; omega
          case c5 => have := HR4.out.size; simp; omega
          intro v5 w5 hown hgrow _
          have HR5 := hid (rel_app2 HR4.out.size HR4.out HO4.out (Below.refl _ _) hgrow)
          have HO5 := hid hown
          clear hown hgrow
          go_wp2_with fail
          go_roundw
          case rel => exact ⟨k + 1, by have := HLT.out; omega, by go_num, by rw [HN.out.1], hid (own_next (L := stO (R.take k) m ++ [m]) (x := (xp, xv)) (by rw [List.length_append]; exact HO5.out) HN.out.2), HR5⟩
          case measure => have := HLT.out; simp [intOf]; omega
      · have HN := hid (HDD.out hd)
        clear hd HA HBB HCC HDD
        go_wp2_with fail
        go_quiet (fail)
        have HBd := hid (below_drawn_of HB.out nq)
        have HOd := hid (owns_below HO.out (below_drawn wr nq))
        replace f0 : (wr.drewN nq).cell? ⟨w.heap.size, 0, none⟩ = some (.string p) := f0
        replace f1 : (wr.drewN nq).cell? ⟨w.heap.size, 1, none⟩ = some (.slice (some ⟨b, o, none⟩) R.length vc) := f1
        replace f2 : (wr.drewN nq).cell? ⟨w.heap.size, 2, none⟩ = some (.slice up X.length uc) := f2
        replace m0 : (wr.drewN nq).cell? ⟨w.heap.size + 1, 0, none⟩ = some (.string m.1) := m0
        replace m1 : (wr.drewN nq).cell? ⟨w.heap.size + 1, 1, none⟩ = some (.string m.2) := m1
        replace x0 : (wr.drewN nq).cell? ⟨b, o + k * 2, none⟩ = some (.string xp) := x0
        replace x1 : (wr.drewN nq).cell? ⟨b, o + k * 2 + 1, none⟩ = some (.string xv) := x1
        generalize wr.drewN nq = wq at *
        go_wp2_with (at_builtin; refine wpList_append_own _ rfl _ _ 22 rfl wE.heap.size 26 i0 _ 2 32 Tryz.underlying22 hi0 hz0 hz1 hz2 rfl (by decide) _ _ _ rfl (HOd.out.alloc _) ⟨wq.heap.size, 0, none⟩ 1 1 [.string xp, .string xv] rfl rfl ?c1 ?c2 ?c3 ?c4 ?c5 ?_)
        case c1 => exact news2 _ _ _
        case c2 => exact two_one _ _
        case c3 => have := HLN.out; unfold maxLen; omega
        case c4 => have := HLN.out; omega
        case c5 => have := HBd.out.size; simp; omega
        intro v3 w3 hown hgrow _
        have HR3 := hid (rel_app2 HBd.out.size HBd.out HOd.out (Below.refl _ _) hgrow)
        have HO3 := hid hown
        clear hown hgrow
        go_wp2_with fail
        go_roundw
        case rel => exact ⟨k + 1, by have := HLT.out; omega, by go_num, by rw [HN.out.1], hid (own_next HO3.out HN.out.2), HR3⟩
        case measure => have := HLT.out; simp [intOf]; omega
    · have HTR := hid (show R.take k = R from List.take_of_length_le (by omega))
      rw [HTR.out] at HO HLN
      have HST := hid (st_end R m)
      have HLS := hid (show (setR R m).length ≤ 51 by
        rw [← HST.out]
        have := HLN.out
        split
        · omega
        · rw [List.length_append]; simp; omega)
      rw [HTR.out]
      have hkI : ¬ (k : Int) < (R.length : Int) := by omega
      clear hlt
      cases hd : stD R m
      · rw [hd, if_neg (by decide)] at HST
        go_wp2_with (at_builtin; refine wpList_append_own _ rfl _ _ 22 rfl wE.heap.size 26 i0 _ 2 32 Tryz.underlying22 hi0 hz0 hz1 hz2 rfl (by decide) _ _ _ rfl (HO.out.alloc _) ⟨wr.heap.size, 0, none⟩ 1 1 [.string m.1, .string m.2] rfl rfl ?c1 ?c2 ?c3 ?c4 ?c5 ?_)
        case c2 => exact ⟨rfl, rfl⟩
        case c3 => have := HLN.out; unfold maxLen; omega
        case c4 => have := HLN.out; omega
        case c5 => have := HB.out.size; omega
        intro v3 w3 hown hgrow _
        have HR3 := hid (rel_app2 HB.out.size HB.out HO.out (Below.refl _ _) hgrow)
        have HO3 := hid hown
        clear hown hgrow
        have HOW := hid (own_next (L := stO R m) (x := m) HO3.out HST.out.symm)
        have HBW := HR3
        generalize v3 = vv at *
        generalize w3 = W at *
        clear f0 f1 f2 m0 m1 HO3 HR3
        obtain ⟨na, nn, nc, rfl⟩ := own_sl HOW.out
        have HFW := hid (blk_keep HF2.out HBW.out)
        have HRW := hid (blk_keep HR2.out HBW.out)
        have HEW := hid (blk_keep HEN.out HBW.out)
        have f0 : W.cell? ⟨w.heap.size, 0, none⟩ = some (.string p) := by rw [Lib.cell_of_heap HFW.out]; rfl
        have f1 : W.cell? ⟨w.heap.size, 1, none⟩ = some (.slice vp R.length vc) := by rw [Lib.cell_of_heap HFW.out]; rfl
        have f2 : W.cell? ⟨w.heap.size, 2, none⟩ = some (.slice up X.length uc) := by rw [Lib.cell_of_heap HFW.out]; rfl
        have ff := fun o => Lib.frozen_of_heap HFW.out o
        have HBs := hid ((HB2.out.trans (HBW.out.mono HB2.out.size)).setCell (p := ⟨w.heap.size, 1, none⟩) (Nat.le_refl _) (.slice na nn nc))
        have HFs := hid (set_block (o := 1) (x := .slice na nn nc) HFW.out)
        have HRs := hid (keep_set (o := 1) (x := .slice na nn nc) HRW.out (show w.heap.size + 1 + 1 ≠ w.heap.size by omega))
        have HEs := hid (keep_set (o := 1) (x := .slice na nn nc) HEW.out (show w1.heap.size ≠ w.heap.size by omega))
        have HOs := hid (owns_set (o := 1) (x := .slice na nn nc) HOW.out (own_ne2 HOW.out HFW.out (by decide)))
        have HFl := hid (show Fl (W.setCell ⟨w.heap.size, 1, none⟩ (.slice na nn nc)) (setR R m) X (.slice na nn nc) (.slice up X.length uc) from ⟨own_ms HOs.out, HFL.out.x.below HBs.out, set_short HFL.out.rs HM.out, HFL.out.xs, by have := HLS.out; omega, HFL.out.xn⟩)
        have HF5 := hid (ffault_any p (setR R m) X _ _ _ hp HFl.out)
        unfold faultV at HF5
        go_wp2_with fail
        refine HF5.out.mono ?_
        rintro e w5 ⟨rfl, hb⟩
        have HB5 := hid (HBs.out.trans (hb.mono HBs.out.size))
        have HFk := hid (blk_keep HFs.out hb)
        have HRk := hid (blk_keep HRs.out hb)
        have HEk := hid (blk_keep HEs.out hb)
        have HOk := hid (owns_below HOs.out hb)
        clear hb f0 f1 f2 ff
        have ef := fun o => Lib.frozen_of_heap HEk.out o
        have e0 : w5.cell? ⟨w1.heap.size, 0, none⟩ = some (.int .i64 0) := by rw [Lib.cell_of_heap HEk.out]; rfl
        have e1 : w5.cell? ⟨w1.heap.size, 1, none⟩ = some (.int .i64 y) := by rw [Lib.cell_of_heap HEk.out]; rfl
        have f0 : w5.cell? ⟨w.heap.size, 0, none⟩ = some (.string p) := by rw [Lib.cell_of_heap HFk.out]; rfl
        have f1 : w5.cell? ⟨w.heap.size, 1, none⟩ = some (.slice na nn nc) := by rw [Lib.cell_of_heap HFk.out]; rfl
        have f2 : w5.cell? ⟨w.heap.size, 2, none⟩ = some (.slice up X.length uc) := by rw [Lib.cell_of_heap HFk.out]; rfl
        have r0 : w5.cell? ⟨w.heap.size + 1 + 1, 0, none⟩ = some (.string ⟨#[]⟩) := by rw [Lib.cell_of_heap HRk.out]; rfl
        have r1 : w5.cell? ⟨w.heap.size + 1 + 1, 1, none⟩ = some (.slice none 0 0) := by rw [Lib.cell_of_heap HRk.out]; rfl
        have r2 : w5.cell? ⟨w.heap.size + 1 + 1, 2, none⟩ = some (.slice none 0 0) := by rw [Lib.cell_of_heap HRk.out]; rfl
        have rf := fun o => Lib.frozen_of_heap HRk.out o
        have hn1 : ¬ w.heap.size = w1.heap.size := by omega
        have hn2 : ¬ w1.heap.size = w.heap.size := by omega
        have hn3 : ¬ w.heap.size + 1 + 1 = w1.heap.size := by omega
        have hn4 : ¬ w1.heap.size = w.heap.size + 1 + 1 := by omega
        by_cases hcode : (fileF p (setR R m) X).1 = 0
        · have HSK := hid (show setF p R X m = .ok (setR R m) by rw [HSF.out, if_pos hcode])
          rw [hcode]
          generalize atOf (fileF p (setR R m) X).2 = y2 at *
          have HB6 := hid ((HB5.out.setCell (p := ⟨w1.heap.size, 0, none⟩) (show w.heap.size ≤ w1.heap.size by omega) (.int .i64 0)).setCell (p := ⟨w1.heap.size, 1, none⟩) (show w.heap.size ≤ w1.heap.size by omega) (.int .i64 y2))
          have HF6 := hid (keep_set (o := 1) (x := .int .i64 y2) (keep_set (o := 0) (x := .int .i64 0) HFk.out (show w.heap.size ≠ w1.heap.size by omega)) (show w.heap.size ≠ w1.heap.size by omega))
          have HR6 := hid (keep_set (o := 1) (x := .int .i64 y2) (keep_set (o := 0) (x := .int .i64 0) HRk.out (show w.heap.size + 1 + 1 ≠ w1.heap.size by omega)) (show w.heap.size + 1 + 1 ≠ w1.heap.size by omega))
          have HO6 := hid (owns_set (o := 1) (x := .int .i64 y2) (owns_set (o := 0) (x := .int .i64 0) HOk.out (own_ne2 HOk.out HEk.out (by decide))) (own_ne2 HOk.out HEk.out (by decide)))
          go_wp2_with fail
          refine bodyPost_ret (v := .tuple #[.agg #[.string p, .slice na nn nc, .slice up X.length uc], .int .i64 0]) (by simp [results, Tryz.results16, go_sem, r0, r1, r2]) rfl ?_
          rw [HSK.out]
          have HB7 := hid (put3_below (x := .string p) (y := .slice na nn nc) (z := .slice up X.length uc) HB6.out (show w.heap.size ≤ w.heap.size + 1 + 1 by omega))
          exact ⟨_, _, rfl, own_ms (put3_owns HO6.out (own_ne2 HO6.out HR6.out (by decide))), HFL.out.x.below HB7.out, HB7.out⟩
        · have HSK := hid (show setF p R X m = .error (fileF p (setR R m) X).1 by rw [HSF.out, if_neg hcode])
          have hpos : (0 : Int) < ((fileF p (setR R m) X).1 : Int) := by omega
          generalize (fileF p (setR R m) X).1 = z2 at *
          generalize atOf (fileF p (setR R m) X).2 = y2 at *
          have HB6 := hid ((HB5.out.setCell (p := ⟨w1.heap.size, 0, none⟩) (show w.heap.size ≤ w1.heap.size by omega) (.int .i64 z2)).setCell (p := ⟨w1.heap.size, 1, none⟩) (show w.heap.size ≤ w1.heap.size by omega) (.int .i64 y2))
          have HR6 := hid (keep_set (o := 1) (x := .int .i64 y2) (keep_set (o := 0) (x := .int .i64 z2) HRk.out hn3) hn3)
          have HE6 := hid (set_block (o := 1) (x := .int .i64 y2) (set_block (o := 0) (x := .int .i64 z2) HEk.out))
          go_wp2_with fail
          clear e0 e1 ef r0 r1 r2 rf f0 f1 f2
          have e0 : ((w5.setCell ⟨w1.heap.size, 0, none⟩ (.int .i64 z2)).setCell ⟨w1.heap.size, 1, none⟩ (.int .i64 y2)).cell? ⟨w1.heap.size, 0, none⟩ = some (.int .i64 z2) := by rw [Lib.cell_of_heap HE6.out]; rfl
          have r0 : ((w5.setCell ⟨w1.heap.size, 0, none⟩ (.int .i64 z2)).setCell ⟨w1.heap.size, 1, none⟩ (.int .i64 y2)).cell? ⟨w.heap.size + 1 + 1, 0, none⟩ = some (.string ⟨#[]⟩) := by rw [Lib.cell_of_heap HR6.out]; rfl
          have r1 : ((w5.setCell ⟨w1.heap.size, 0, none⟩ (.int .i64 z2)).setCell ⟨w1.heap.size, 1, none⟩ (.int .i64 y2)).cell? ⟨w.heap.size + 1 + 1, 1, none⟩ = some (.slice none 0 0) := by rw [Lib.cell_of_heap HR6.out]; rfl
          have r2 : ((w5.setCell ⟨w1.heap.size, 0, none⟩ (.int .i64 z2)).setCell ⟨w1.heap.size, 1, none⟩ (.int .i64 y2)).cell? ⟨w.heap.size + 1 + 1, 2, none⟩ = some (.slice none 0 0) := by rw [Lib.cell_of_heap HR6.out]; rfl
          have rf := fun o => Lib.frozen_of_heap HR6.out o
          generalize (w5.setCell ⟨w1.heap.size, 0, none⟩ (.int .i64 z2)).setCell ⟨w1.heap.size, 1, none⟩ (.int .i64 y2) = w6 at *
          go_region
          go_wp2_with fail
          refine bodyPost_ret (v := .tuple #[.agg #[.string ⟨#[]⟩, .slice none 0 0, .slice none 0 0], .int .i64 z2]) (by simp [results, Tryz.results16, go_sem, r0, r1, r2]) rfl ?_
          rw [HSK.out]
          exact ⟨_, _, rfl, ms_nil _, ms_nil _, below_drawn_of (put3_below HB6.out (show w.heap.size ≤ w.heap.size + 1 + 1 by omega)) 1⟩
      · rw [hd, if_pos rfl] at HST
        have HOW := hid (show wr.ownsRow wE.heap.size 26 2 u7 (setR R m).length (flatM (setR R m)) by rw [← HST.out]; exact HO.out)
        have HBW := HB
        clear f0 f1 f2 m0 m1
        generalize wr = W at *
        generalize u7 = vv at *
        obtain ⟨na, nn, nc, rfl⟩ := own_sl HOW.out
        have HFW := hid (blk_keep HF2.out HBW.out)
        have HRW := hid (blk_keep HR2.out HBW.out)
        have HEW := hid (blk_keep HEN.out HBW.out)
        have f0 : W.cell? ⟨w.heap.size, 0, none⟩ = some (.string p) := by rw [Lib.cell_of_heap HFW.out]; rfl
        have f1 : W.cell? ⟨w.heap.size, 1, none⟩ = some (.slice vp R.length vc) := by rw [Lib.cell_of_heap HFW.out]; rfl
        have f2 : W.cell? ⟨w.heap.size, 2, none⟩ = some (.slice up X.length uc) := by rw [Lib.cell_of_heap HFW.out]; rfl
        have ff := fun o => Lib.frozen_of_heap HFW.out o
        have HBs := hid ((HB2.out.trans (HBW.out.mono HB2.out.size)).setCell (p := ⟨w.heap.size, 1, none⟩) (Nat.le_refl _) (.slice na nn nc))
        have HFs := hid (set_block (o := 1) (x := .slice na nn nc) HFW.out)
        have HRs := hid (keep_set (o := 1) (x := .slice na nn nc) HRW.out (show w.heap.size + 1 + 1 ≠ w.heap.size by omega))
        have HEs := hid (keep_set (o := 1) (x := .slice na nn nc) HEW.out (show w1.heap.size ≠ w.heap.size by omega))
        have HOs := hid (owns_set (o := 1) (x := .slice na nn nc) HOW.out (own_ne2 HOW.out HFW.out (by decide)))
        have HFl := hid (show Fl (W.setCell ⟨w.heap.size, 1, none⟩ (.slice na nn nc)) (setR R m) X (.slice na nn nc) (.slice up X.length uc) from ⟨own_ms HOs.out, HFL.out.x.below HBs.out, set_short HFL.out.rs HM.out, HFL.out.xs, by have := HLS.out; omega, HFL.out.xn⟩)
        have HF5 := hid (ffault_any p (setR R m) X _ _ _ hp HFl.out)
        unfold faultV at HF5
        go_wp2_with fail
        refine HF5.out.mono ?_
        rintro e w5 ⟨rfl, hb⟩
        have HB5 := hid (HBs.out.trans (hb.mono HBs.out.size))
        have HFk := hid (blk_keep HFs.out hb)
        have HRk := hid (blk_keep HRs.out hb)
        have HEk := hid (blk_keep HEs.out hb)
        have HOk := hid (owns_below HOs.out hb)
        clear hb f0 f1 f2 ff
        have ef := fun o => Lib.frozen_of_heap HEk.out o
        have e0 : w5.cell? ⟨w1.heap.size, 0, none⟩ = some (.int .i64 0) := by rw [Lib.cell_of_heap HEk.out]; rfl
        have e1 : w5.cell? ⟨w1.heap.size, 1, none⟩ = some (.int .i64 y) := by rw [Lib.cell_of_heap HEk.out]; rfl
        have f0 : w5.cell? ⟨w.heap.size, 0, none⟩ = some (.string p) := by rw [Lib.cell_of_heap HFk.out]; rfl
        have f1 : w5.cell? ⟨w.heap.size, 1, none⟩ = some (.slice na nn nc) := by rw [Lib.cell_of_heap HFk.out]; rfl
        have f2 : w5.cell? ⟨w.heap.size, 2, none⟩ = some (.slice up X.length uc) := by rw [Lib.cell_of_heap HFk.out]; rfl
        have r0 : w5.cell? ⟨w.heap.size + 1 + 1, 0, none⟩ = some (.string ⟨#[]⟩) := by rw [Lib.cell_of_heap HRk.out]; rfl
        have r1 : w5.cell? ⟨w.heap.size + 1 + 1, 1, none⟩ = some (.slice none 0 0) := by rw [Lib.cell_of_heap HRk.out]; rfl
        have r2 : w5.cell? ⟨w.heap.size + 1 + 1, 2, none⟩ = some (.slice none 0 0) := by rw [Lib.cell_of_heap HRk.out]; rfl
        have rf := fun o => Lib.frozen_of_heap HRk.out o
        have hn1 : ¬ w.heap.size = w1.heap.size := by omega
        have hn2 : ¬ w1.heap.size = w.heap.size := by omega
        have hn3 : ¬ w.heap.size + 1 + 1 = w1.heap.size := by omega
        have hn4 : ¬ w1.heap.size = w.heap.size + 1 + 1 := by omega
        by_cases hcode : (fileF p (setR R m) X).1 = 0
        · have HSK := hid (show setF p R X m = .ok (setR R m) by rw [HSF.out, if_pos hcode])
          rw [hcode]
          generalize atOf (fileF p (setR R m) X).2 = y2 at *
          have HB6 := hid ((HB5.out.setCell (p := ⟨w1.heap.size, 0, none⟩) (show w.heap.size ≤ w1.heap.size by omega) (.int .i64 0)).setCell (p := ⟨w1.heap.size, 1, none⟩) (show w.heap.size ≤ w1.heap.size by omega) (.int .i64 y2))
          have HF6 := hid (keep_set (o := 1) (x := .int .i64 y2) (keep_set (o := 0) (x := .int .i64 0) HFk.out (show w.heap.size ≠ w1.heap.size by omega)) (show w.heap.size ≠ w1.heap.size by omega))
          have HR6 := hid (keep_set (o := 1) (x := .int .i64 y2) (keep_set (o := 0) (x := .int .i64 0) HRk.out (show w.heap.size + 1 + 1 ≠ w1.heap.size by omega)) (show w.heap.size + 1 + 1 ≠ w1.heap.size by omega))
          have HO6 := hid (owns_set (o := 1) (x := .int .i64 y2) (owns_set (o := 0) (x := .int .i64 0) HOk.out (own_ne2 HOk.out HEk.out (by decide))) (own_ne2 HOk.out HEk.out (by decide)))
          go_wp2_with fail
          refine bodyPost_ret (v := .tuple #[.agg #[.string p, .slice na nn nc, .slice up X.length uc], .int .i64 0]) (by simp [results, Tryz.results16, go_sem, r0, r1, r2]) rfl ?_
          rw [HSK.out]
          have HB7 := hid (put3_below (x := .string p) (y := .slice na nn nc) (z := .slice up X.length uc) HB6.out (show w.heap.size ≤ w.heap.size + 1 + 1 by omega))
          exact ⟨_, _, rfl, own_ms (put3_owns HO6.out (own_ne2 HO6.out HR6.out (by decide))), HFL.out.x.below HB7.out, HB7.out⟩
        · have HSK := hid (show setF p R X m = .error (fileF p (setR R m) X).1 by rw [HSF.out, if_neg hcode])
          have hpos : (0 : Int) < ((fileF p (setR R m) X).1 : Int) := by omega
          generalize (fileF p (setR R m) X).1 = z2 at *
          generalize atOf (fileF p (setR R m) X).2 = y2 at *
          have HB6 := hid ((HB5.out.setCell (p := ⟨w1.heap.size, 0, none⟩) (show w.heap.size ≤ w1.heap.size by omega) (.int .i64 z2)).setCell (p := ⟨w1.heap.size, 1, none⟩) (show w.heap.size ≤ w1.heap.size by omega) (.int .i64 y2))
          have HR6 := hid (keep_set (o := 1) (x := .int .i64 y2) (keep_set (o := 0) (x := .int .i64 z2) HRk.out hn3) hn3)
          have HE6 := hid (set_block (o := 1) (x := .int .i64 y2) (set_block (o := 0) (x := .int .i64 z2) HEk.out))
          go_wp2_with fail
          clear e0 e1 ef r0 r1 r2 rf f0 f1 f2
          have e0 : ((w5.setCell ⟨w1.heap.size, 0, none⟩ (.int .i64 z2)).setCell ⟨w1.heap.size, 1, none⟩ (.int .i64 y2)).cell? ⟨w1.heap.size, 0, none⟩ = some (.int .i64 z2) := by rw [Lib.cell_of_heap HE6.out]; rfl
          have r0 : ((w5.setCell ⟨w1.heap.size, 0, none⟩ (.int .i64 z2)).setCell ⟨w1.heap.size, 1, none⟩ (.int .i64 y2)).cell? ⟨w.heap.size + 1 + 1, 0, none⟩ = some (.string ⟨#[]⟩) := by rw [Lib.cell_of_heap HR6.out]; rfl
          have r1 : ((w5.setCell ⟨w1.heap.size, 0, none⟩ (.int .i64 z2)).setCell ⟨w1.heap.size, 1, none⟩ (.int .i64 y2)).cell? ⟨w.heap.size + 1 + 1, 1, none⟩ = some (.slice none 0 0) := by rw [Lib.cell_of_heap HR6.out]; rfl
          have r2 : ((w5.setCell ⟨w1.heap.size, 0, none⟩ (.int .i64 z2)).setCell ⟨w1.heap.size, 1, none⟩ (.int .i64 y2)).cell? ⟨w.heap.size + 1 + 1, 2, none⟩ = some (.slice none 0 0) := by rw [Lib.cell_of_heap HR6.out]; rfl
          have rf := fun o => Lib.frozen_of_heap HR6.out o
          generalize (w5.setCell ⟨w1.heap.size, 0, none⟩ (.int .i64 z2)).setCell ⟨w1.heap.size, 1, none⟩ (.int .i64 y2) = w6 at *
          go_region
          go_wp2_with fail
          refine bodyPost_ret (v := .tuple #[.agg #[.string ⟨#[]⟩, .slice none 0 0, .slice none 0 0], .int .i64 z2]) (by simp [results, Tryz.results16, go_sem, r0, r1, r2]) rfl ?_
          rw [HSK.out]
          exact ⟨_, _, rfl, ms_nil _, ms_nil _, below_drawn_of (put3_below HB6.out (show w.heap.size ≤ w.heap.size + 1 + 1 by omega)) 1⟩
end Ve
end Go.Proofs.YtjphlclhkaoipaaGreatDoor
