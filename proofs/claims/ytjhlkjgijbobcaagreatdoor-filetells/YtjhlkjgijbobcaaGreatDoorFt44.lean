/-
  RefQ
-/
import Derived.Test.YtjhlkjgijbobcaaGreatDoorFt37
import Derived.Test.YtjhlkjgijbobcaaGreatDoorFt43
import Derived.Test.YtjhlkjgijbobcaaGreatDoorFt40
import Derived.Deep.RegionHeld
namespace Go.Proofs.YtjhlkjgijbobcaaGreatDoor
open Go.RowKit
namespace Ve
def readOut (s : List UInt8) : (Nat × Option Nat) × Fs := match readF s with
  | .error co => (co, noFile)
  | .ok f => ((0, none), f)
def RdQ (s : List UInt8) (w w' : World) (e : Ending) : Prop :=
  ∃ v u, e = .returned (.tuple #[.agg #[.string (readOut s).2.1, v, u], faultV (readOut s).1]) ∧ MsAt w' v (readOut s).2.2.1 ∧ MsAt w' u (readOut s).2.2.2 ∧ Below w.heap.size w w'
theorem rcut10 (s : ByteArray) (w : World) (hs : s.size < 4294967281) : Calls Tryz.prog 39 #[.string s, .int .u8 10] w fun e w' => ∃ v X, e = .returned v ∧ bl X = cutAt 10 s.data.toList ∧ w'.ownsRow w.heap.size 9 1 v X.length (X.map Value.string) ∧ Below w.heap.size w w' := rcut_any s 10 w hs
theorem rcut32 (s : ByteArray) (w : World) (hs : s.size < 4294967281) : Calls Tryz.prog 39 #[.string s, .int .u8 32] w fun e w' => ∃ v X, e = .returned v ∧ bl X = cutAt 32 s.data.toList ∧ w'.ownsRow w.heap.size 9 1 v X.length (X.map Value.string) ∧ Below w.heap.size w w' := rcut_any s 32 w hs
def resW (w : World) : World := (w.alloc (.cells #[.string ⟨#[]⟩, .slice none 0 0, .slice none 0 0] 24)).alloc (.cells #[.int .i64 0, .int .i64 0] 35)
theorem resW_size (w : World) : (resW w).heap.size = w.heap.size + 1 + 1 := by simp [resW]
theorem resW_below (w : World) : Below w.heap.size w (resW w) := ((Below.refl w.heap.size w).alloc (Nat.le_refl _) _).alloc (by simp) _
theorem resW_f (w : World) : (resW w).heap[w.heap.size]? = some (.cells #[.string ⟨#[]⟩, .slice none 0 0, .slice none 0 0] 24 (0, 0)) := heap_old _ _ (heap_new w _)
theorem resW_g (w : World) : (resW w).heap[w.heap.size + 1]? = some (.cells #[.int .i64 0, .int .i64 0] 35 (0, 0)) := by
  have hz : (w.alloc (.cells #[.string ⟨#[]⟩, .slice none 0 0, .slice none 0 0] 24)).heap.size = w.heap.size + 1 := by simp
  have := heap_new (w.alloc (.cells #[.string ⟨#[]⟩, .slice none 0 0, .slice none 0 0] 24)) (.cells #[.int .i64 0, .int .i64 0] 35)
  rw [hz] at this
  exact this
theorem resW_at {w W : World} (hb : Below (resW w).heap.size (resW w) W) :
    (W.cell? ⟨w.heap.size, 0, none⟩ = some (.string ⟨#[]⟩) ∧ W.cell? ⟨w.heap.size, 1, none⟩ = some (.slice none 0 0) ∧ W.cell? ⟨w.heap.size, 2, none⟩ = some (.slice none 0 0)) ∧ (W.cell? ⟨w.heap.size + 1, 0, none⟩ = some (.int .i64 0) ∧ W.cell? ⟨w.heap.size + 1, 1, none⟩ = some (.int .i64 0)) ∧
    (∀ o, W.frozen? ⟨w.heap.size, o, none⟩ = false) ∧ (∀ o, W.frozen? ⟨w.heap.size + 1, o, none⟩ = false) ∧ W.heap[w.heap.size]? = some (.cells #[.string ⟨#[]⟩, .slice none 0 0, .slice none 0 0] 24 (0, 0)) ∧ W.heap[w.heap.size + 1]? = some (.cells #[.int .i64 0, .int .i64 0] 35 (0, 0)) := by
  have h1 := blk_keep (resW_f w) hb
  have h2 := blk_keep (resW_g w) hb
  refine ⟨⟨?_, ?_, ?_⟩, ⟨?_, ?_⟩, fun o => Lib.frozen_of_heap h1 o, fun o => Lib.frozen_of_heap h2 o, h1, h2⟩
  · rw [Lib.cell_of_heap h1]; rfl
  · rw [Lib.cell_of_heap h1]; rfl
  · rw [Lib.cell_of_heap h1]; rfl
  · rw [Lib.cell_of_heap h2]; rfl
  · rw [Lib.cell_of_heap h2]; rfl
theorem size_lim {s : ByteArray} (h : ¬ 8000 < s.size) : ¬ 8000 < s.data.toList.length := by rw [len_eq]; exact h
theorem readF_bad {s : ByteArray} {k : Nat} (h : ¬ 8000 < s.size) (hr : readL s.data.toList = .error k) : readOut s.data.toList = ((1, some k), noFile) := by
  unfold readOut readF; rw [if_neg (size_lim h), hr]
theorem readF_long {s : ByteArray} (h : 8000 < s.size) : readOut s.data.toList = ((2, none), noFile) := by
  unfold readOut readF; rw [if_pos (by rw [len_eq]; exact h)]
theorem readF_file {s : ByteArray} {f : Fs} (h : ¬ 8000 < s.size) (hr : readL s.data.toList = .ok f) (hf : (fileF f.1 f.2.1 f.2.2).1 ≠ 0) : readOut s.data.toList = (((fileF f.1 f.2.1 f.2.2).1, none), noFile) := by
  unfold readOut readF; rw [if_neg (size_lim h), hr]; simp only; rw [if_neg hf]
theorem readF_ok {s : ByteArray} {f : Fs} (h : ¬ 8000 < s.size) (hr : readL s.data.toList = .ok f) (hf : (fileF f.1 f.2.1 f.2.2).1 = 0) : readOut s.data.toList = ((0, none), f) := by
  unfold readOut readF; rw [if_neg (size_lim h), hr]; simp only; rw [if_pos hf]
theorem rdq_bad {s : List UInt8} {w W : World} {c : Nat} {o : Option Nat} {a : Int} (hb : Below w.heap.size w W) (ho : readOut s = ((c, o), noFile)) (ha : a = atOf o) :
    RdQ s w (((((W.setCell ⟨w.heap.size, 0, none⟩ (.string ⟨#[]⟩)).setCell ⟨w.heap.size, 1, none⟩ (.slice none 0 0)).setCell ⟨w.heap.size, 2, none⟩ (.slice none 0 0)).setCell ⟨w.heap.size + 1, 0, none⟩ (.int .i64 (c : Nat))).setCell ⟨w.heap.size + 1, 1, none⟩ (.int .i64 a))
      (.returned (.tuple #[.agg #[.string ⟨#[]⟩, .slice none 0 0, .slice none 0 0], .agg #[.int .i64 (c : Nat), .int .i64 a]])) := by
  unfold RdQ
  rw [ho, ha]
  exact ⟨_, _, rfl, ms_nil _, ms_nil _, put2_below (put3_below hb (Nat.le_refl _)) (by omega)⟩
theorem news2 (w : World) (a b : Value) : ∀ j u, [a, b][j]? = some u → (w.alloc (.cells #[a, b] 26)).cell? ((⟨w.heap.size, 0, none⟩ : Addr).add j) = some u :=
  World.news_of_block (cs := #[a, b]) (t := 26) (fr := (0, 0)) (heap_alloc_new w _)
theorem two_one (a b : ByteArray) : ∀ u ∈ [Value.string a, Value.string b], u.oneCell' = true := by
  intro u hu; simp at hu; rcases hu with rfl | rfl <;> rfl
theorem step0_bad {ws : List (List UInt8)} {f : Fs} (h : ws.length ≠ 2) : stepF 0 ws f = none := by
  unfold stepF
  rw [if_pos rfl]
  split
  · simp at h
  · rfl
theorem step1_bad {k : Nat} {ws : List (List UInt8)} {f : Fs} (hk : k ≠ 0) (h : ws.length ≠ 3) : stepF k ws f = none := by
  unfold stepF
  rw [if_neg hk]
  split
  · simp at h
  · rfl
theorem step0_is (a b : List UInt8) (f : Fs) : stepF 0 [a, b] f = if a = wModule then some (bt b, f.2) else none := by unfold stepF; rw [if_pos rfl]
theorem step1_is {k : Nat} (hk : k ≠ 0) (a b c : List UInt8) (f : Fs) : stepF k [a, b, c] f = if a = wRequire ∧ f.2.2 = [] then some (f.1, f.2.1 ++ [(bt b, bt c)], f.2.2) else if a = wExclude then some (f.1, f.2.1, f.2.2 ++ [(bt b, bt c)]) else none := by unfold stepF; rw [if_neg hk]
theorem len2 {Y : List ByteArray} (h : Y.length = 2) : ∃ a b, Y = [a, b] := by
  match Y, h with
  | [a, b], _ => exact ⟨a, b, rfl⟩
theorem len3 {Y : List ByteArray} (h : Y.length = 3) : ∃ a b c, Y = [a, b, c] := by
  match Y, h with
  | [a, b, c], _ => exact ⟨a, b, c, rfl⟩
theorem word_yes {a : ByteArray} {l : List UInt8} (h : a.data.toList = l) : (a.toList == l) = true := by rw [ByteArray.toList_eq, h]; exact beq_self_eq_true l
theorem word_no {a : ByteArray} {l : List UInt8} (h : ¬ a.data.toList = l) : (a.toList == l) = false := by rw [ByteArray.toList_eq]; exact beq_eq_false_iff_ne.2 h
theorem RdQ.drew {s : List UInt8} {w W : World} {e : Ending} (h : RdQ s w W e) : RdQ s w W.drew e := by
  obtain ⟨v, u, h1, h2, h3, h4⟩ := h
  exact ⟨v, u, h1, h2.below (below_drawn W 1), h3.below (below_drawn W 1), below_drawn_of h4 1⟩
theorem rdq_ok {s : List UInt8} {w W : World} {kp : Nat × Array Value} {fb : Nat} {f : Fs} {v u : Value} (R : Rd kp (resW w) W fb f v u) (ho : readOut s = ((0, none), f)) :
    RdQ s w (((((W.setCell ⟨w.heap.size, 0, none⟩ (.string f.1)).setCell ⟨w.heap.size, 1, none⟩ v).setCell ⟨w.heap.size, 2, none⟩ u).setCell ⟨w.heap.size + 1, 0, none⟩ (.int .i64 0)).setCell ⟨w.heap.size + 1, 1, none⟩ (.int .i64 (-1)))
      (.returned (.tuple #[.agg #[.string f.1, v, u], .agg #[.int .i64 0, .int .i64 (-1)]])) := by
  obtain ⟨_, _, _, _, h1, h2⟩ := resW_at R.bl
  have hb : Below w.heap.size w W := (resW_below w).trans (R.bl.mono (resW_below w).size)
  have go : ∀ {x : Value} {L : List Bm}, W.ownsRow (resW w).heap.size 26 2 x L.length (flatM L) → MsAt (((put3 W w.heap.size (.string f.1) v u).setCell ⟨w.heap.size + 1, 0, none⟩ (.int .i64 0)).setCell ⟨w.heap.size + 1, 1, none⟩ (.int .i64 (-1))) x L := fun h =>
    own_ms (owns_set (owns_set (put3_owns h (own_ne2 h h1 (by decide))) (own_ne2 h h2 (by decide))) (own_ne2 h h2 (by decide)))
  unfold RdQ
  rw [ho]
  exact ⟨v, u, rfl, go R.ov, go R.ou, put2_below (put3_below hb (Nat.le_refl _)) (by omega)⟩
set_option maxHeartbeats 1000000 in
theorem rdf_long (s : ByteArray) (w : World) (h : 8000 < s.size) : Calls Tryz.prog 14 #[.string s] w fun e w' => RdQ s.data.toList w w' e := by
  have HO := hid (readF_long h)
  have h8 : (8000 : Int) < (s.size : Int) := by omega
  have HB0 := hid (resW_below w)
  clear h
  go_enter Tryz.func14, Tryz.ntmps14
  go_wp2_with fail
  refine (rbare_any _ (resW w)).mono ?_
  rintro e w1 ⟨rfl, hb⟩
  obtain ⟨⟨r0, r1, r2⟩, ⟨g0, g1⟩, rf, gf, _, _⟩ := resW_at hb
  have HB := hid (HB0.out.trans (hb.mono HB0.out.size))
  clear hb
  go_wp2_with fail
  refine bodyPost_ret (v := .tuple #[.agg #[.string ⟨#[]⟩, .slice none 0 0, .slice none 0 0], .agg #[.int .i64 2, .int .i64 (-1)]]) (by simp [results, Tryz.results14, go_sem, r0, r1, r2, g0, g1]) rfl ?_
  exact rdq_bad HB.out HO.out rfl
theorem own_block {w : World} {base : Nat} {e : TypeId} {v : Value} {X : List ByteArray} (h : w.ownsRow base e 1 v X.length (X.map Value.string)) (hX : X ≠ []) : ∃ g cap cur, v = .slice (some ⟨g, 0, none⟩) X.length cap ∧ base ≤ g ∧ w.heap[g]? = some (.cells cur e (0, 0)) ∧ ∀ j (hj : j < X.length), cur[j]? = some (.string X[j]) := by
  obtain ⟨_, ⟨_, hn0⟩ | ⟨g, cap, cur, hv, hg, hblk, hcap, hcm, hcs, hct⟩⟩ := h
  · exact absurd (List.length_eq_zero_iff.1 hn0) hX
  · refine ⟨g, cap, _, hv, hg, hblk, fun j hj => ?_⟩
    have : cur[j]? = (X.map Value.string)[j]? := by
      rw [← hct, List.getElem?_take, if_pos (by omega)]; simp
    simp [this, hj]
theorem rd_first {w w1 : World} {g : Nat} {cur : Array Value} (hb : Below ((resW w).alloc (.cells #[.string ⟨#[]⟩, .slice none 0 0, .slice none 0 0] 24)).heap.size ((resW w).alloc (.cells #[.string ⟨#[]⟩, .slice none 0 0, .slice none 0 0] 24)) w1) (hk : w1.heap[g]? = some (.cells cur 9 (0, 0))) :
    Rd (g, cur) (resW w) w1 (w.heap.size + 1 + 1) noFile (.slice none 0 0) (.slice none 0 0) := by
  have h0 : Below (resW w).heap.size (resW w) ((resW w).alloc (.cells #[.string ⟨#[]⟩, .slice none 0 0, .slice none 0 0] 24)) := (Below.refl _ _).alloc (Nat.le_refl _) _
  have hn := heap_new (resW w) (.cells #[.string ⟨#[]⟩, .slice none 0 0, .slice none 0 0] 24)
  rw [resW_size] at hn
  exact ⟨hk, h0.trans (hb.mono h0.size), by rw [resW_size]; omega, blk_keep hn hb, World.ownsRow_nil _ _ _ _, World.ownsRow_nil _ _ _ _, fun g hg => by simp [Value.ownBlock] at hg⟩
theorem bl_drop {X : List ByteArray} {k : Nat} (hk : k < X.length) : bl (X.drop k) = X[k].data.toList :: bl (X.drop (k + 1)) := by
  rw [List.drop_eq_getElem_cons hk]; rfl
theorem bl_drop_ne {X : List ByteArray} {k : Nat} (hk : k < X.length) : bl (X.drop k) ≠ [] := by rw [bl_drop hk]; simp
theorem drop_end {X : List ByteArray} {k : Nat} (hk : k < X.length) (h : k + 1 = X.length) : bl (X.drop k) = [X[k].data.toList] := by
  rw [bl_drop hk, List.drop_of_length_le (by omega)]; rfl
set_option maxHeartbeats 8000000 in
set_option maxRecDepth 100000 in
theorem rdf_short (s : ByteArray) (w : World) (h : ¬ 8000 < s.size) : Calls Tryz.prog 14 #[.string s] w fun e w' => RdQ s.data.toList w w' e := by
  obtain ⟨i0, hi0, hz0, hz1, hz2⟩ := info_parts infoMod
  have HOE := hid (fun k hr => readF_bad (k := k) h hr)
  have HOF := hid (fun f hr hf => readF_file (f := f) h hr hf)
  have HOK := hid (fun f hr hf => readF_ok (f := f) h hr hf)
  have HSH := hid (fun f (hr : readL s.data.toList = .ok f) => short_of hr (by rw [len_eq]; omega))
  have h8 : ¬ (8000 : Int) < (s.size : Int) := by omega
  have hsz : s.size ≤ 8000 := by omega
  have HB0 := hid (resW_below w)
  clear h
  go_enter Tryz.func14, Tryz.ntmps14
  go_wp2_with fail
  refine (rcut10 s ((resW w).alloc (.cells #[.string ⟨#[]⟩, .slice none 0 0, .slice none 0 0] 24)) (by omega)).mono ?_
  rintro e w1 ⟨lv, X, rfl, hX, hown, hb⟩
  have hXN : X ≠ [] := fun h => by subst h; exact cutAt_ne _ _ hX.symm
  obtain ⟨g, cap, cur, rfl, _, hblk, hcur⟩ := own_block hown hXN
  have HCUR := hid hcur
  have HRD := hid (rd_first hb hblk)
  have HX := hid hX
  have hXle := many_le hX
  have HXB := hid (show X.length ≤ 8001 by omega)
  have HXP := hid (show 0 < X.length from List.length_pos_iff.2 hXN)
  have HXZ := hid (show ∀ x, x ∈ X → x.size < 4294967281 from fun x hx => by have := piece_le hX hx; omega)
  clear hX hown hb hblk hcur hXN
  go_wp2_with fail
  go_loopw [6] (fun i wr => ∃ (k : Nat) (f : Fs) (v u : Value), k < X.length ∧ i = .int .i64 k ∧ Hid (readGo k (bl (X.drop k)) f = readL s.data.toList) ∧ Hid (f.2.1.length ≤ k ∧ f.2.2.length ≤ k) ∧ Hid (Rd (g, cur) (resW w) wr (w.heap.size + 1 + 1) f v u)) (fun i _ => X.length - (intOf i).toNat)
  case atStart => exact ⟨0, noFile, _, _, HXP.out, rfl, hid (by rw [List.drop_zero, HX.out]; rfl), hid ⟨Nat.le_refl _, Nat.le_refl _⟩, HRD⟩
  case round =>
    obtain ⟨k, f, v, u, hk, rfl, HG, HLN, HR⟩ := hrel
    obtain ⟨va, vc, ev, _⟩ := own_ms HR.out.ov
    obtain ⟨ua, uc, eu, _⟩ := own_ms HR.out.ou
    subst ev; subst eu
    have f0 := HR.out.c0
    have f1 := HR.out.c1
    have f2 := HR.out.c2
    have ff := HR.out.fz
    have hl : wr.cell? ⟨g, k, none⟩ = some (.string X[k]) := by rw [Lib.cell_of_heap HR.out.kb]; exact HCUR.out k hk
    have hkI : (k : Int) < (X.length : Int) := by omega
    have HK := hid hk
    obtain ⟨⟨r0, r1, r2⟩, ⟨g0, g1⟩, rf, gf, _, _⟩ := resW_at HR.out.bl
    by_cases hlast : k + 1 = X.length
    · have gw : (X.length : Int) - 1 = (k : Int) := by omega
      have gw3 : IntKind.i64.wrap (k : Int) = (k : Int) := by rw [IntKind.wrap_i64]; omega
      have HD := hid (drop_end hk hlast)
      rw [HD.out] at HG
      clear hlast HD
      generalize X[k] = x at *
      by_cases hx : x.data.toList = []
      · have hq : x.toList.isEmpty = true := by rw [ByteArray.toList_eq, hx]; rfl
        by_cases h00 : k = 0
        · have HV := hid (HOE.out k (by rw [← HG.out, readGo, if_neg (fun h => h.2 h00)]))
          have hk0 : ((k : Int) == 0) = true := beq_iff_eq.2 (by omega)
          clear hx hk h00
          go_wp2_with fail
          refine bodyPost_ret (v := .tuple #[.agg #[.string ⟨#[]⟩, .slice none 0 0, .slice none 0 0], .agg #[.int .i64 1, .int .i64 k]]) (by simp [results, Tryz.results14, go_sem, r0, r1, r2, g0, g1]) rfl ?_
          exact rdq_bad (HB0.out.trans (HR.out.bl.mono HB0.out.size)) HV.out rfl
        · have HV := hid (show readL s.data.toList = .ok f by rw [← HG.out, readGo, if_pos ⟨hx, h00⟩])
          have hk0 : ((k : Int) == 0) = false := beq_eq_false_iff_ne.2 (by omega)
          clear hx hk h00
          have HS := hid (HSH.out f HV.out)
          have HFL := hid (show Fl wr f.2.1 f.2.2 (.slice va f.2.1.length vc) (.slice ua f.2.2.length uc) from ⟨own_ms HR.out.ov, own_ms HR.out.ou, HS.out.2.1, HS.out.2.2.1, HS.out.2.2.2.1, HS.out.2.2.2.2⟩)
          have HFF := hid (ffault_any f.1 f.2.1 f.2.2 _ _ wr HS.out.1 HFL.out)
          unfold faultV at HFF
          go_wp2_with fail
          refine HFF.out.mono ?_
          rintro e w2 ⟨rfl, hb⟩
          have HR2 := hid (HR.out.below hb)
          clear hb f0 f1 f2 ff r0 r1 r2 g0 g1 rf gf
          generalize hcz : (fileF f.1 f.2.1 f.2.2).1 = z at *
          generalize atOf (fileF f.1 f.2.1 f.2.2).2 = y at *
          have HBE := hid ((Below.refl w2.heap.size w2).alloc (Nat.le_refl _) (.cells #[.int .i64 z, .int .i64 y] 35))
          have HR3 := hid (HR2.out.below HBE.out)
          have e0 : (w2.alloc (.cells #[.int .i64 z, .int .i64 y] 35)).cell? ⟨w2.heap.size, 0, none⟩ = some (.int .i64 z) := by simp
          by_cases hz : z = 0
          · have HO := hid (HOK.out f HV.out (by rw [hcz, hz]))
            subst hz
            clear hcz
            have f0 := HR3.out.c0
            have f1 := HR3.out.c1
            have f2 := HR3.out.c2
            go_wp2_with fail
            generalize w2.alloc (.cells #[.int .i64 ((0 : Nat) : Int), .int .i64 y] 35) = w3 at *
            go_region_with (go_at_call 33; refine (fine_any _).mono ?_; rintro e w4 ⟨rfl, hb⟩; have HR4 := hid ((HR3.out.below (below_drawn _ 1)).below hb); have f0 := HR4.out.c0; have f1 := HR4.out.c1; have f2 := HR4.out.c2; obtain ⟨⟨r0, r1, r2⟩, ⟨g0, g1⟩, rf, gf, _, _⟩ := resW_at HR4.out.bl; clear hb)
            all_goals
              go_wp2_with fail
              refine bodyPost_ret (v := .tuple #[.agg #[.string f.1, .slice va f.2.1.length vc, .slice ua f.2.2.length uc], .agg #[.int .i64 0, .int .i64 (-1)]]) (by simp [results, Tryz.results14, go_sem, r0, r1, r2, g0, g1]) rfl ?_
              exact rdq_ok HR4.out HO.out
          · have HO := hid (HOF.out f HV.out (by rw [hcz]; exact hz))
            rw [hcz] at HO
            have hpos : (0 : Int) < (z : Int) := by omega
            clear hcz hz
            go_wp2_with fail
            refine (rbare_any _ _).mono ?_
            rintro e w4 ⟨rfl, hb⟩
            have HR4 := hid (HR3.out.below hb)
            obtain ⟨⟨r0, r1, r2⟩, ⟨g0, g1⟩, rf, gf, _, _⟩ := resW_at HR4.out.bl
            clear hb
            go_wp2_with fail
            refine bodyPost_ret (v := .tuple #[.agg #[.string ⟨#[]⟩, .slice none 0 0, .slice none 0 0], .agg #[.int .i64 z, .int .i64 (-1)]]) (by simp [results, Tryz.results14, go_sem, r0, r1, r2, g0, g1]) rfl ?_
            exact rdq_bad (HB0.out.trans (HR4.out.bl.mono HB0.out.size)) HO.out rfl
      · have hq : x.toList.isEmpty = false := by
          rw [ByteArray.toList_eq]
          cases e : x.data.toList with
          | nil => exact absurd e hx
          | cons _ _ => rfl
        have HV := hid (HOE.out k (by rw [← HG.out, readGo, if_neg (fun h => hx h.1)]))
        clear hx hk
        go_wp2_with fail
        refine bodyPost_ret (v := .tuple #[.agg #[.string ⟨#[]⟩, .slice none 0 0, .slice none 0 0], .agg #[.int .i64 1, .int .i64 k]]) (by simp [results, Tryz.results14, go_sem, r0, r1, r2, g0, g1]) rfl ?_
        exact rdq_bad (HB0.out.trans (HR.out.bl.mono HB0.out.size)) HV.out rfl
    · obtain ⟨n1, hn1⟩ : ∃ n1, X.length = n1 + 1 := ⟨X.length - 1, by omega⟩
      have gw : (X.length : Int) - 1 = (n1 : Int) := by omega
      have gw3 : IntKind.i64.wrap (n1 : Int) = (n1 : Int) := by rw [IntKind.wrap_i64]; omega
      have hkn : ((k : Int) == (n1 : Int)) = false := beq_eq_false_iff_ne.2 (by omega)
      have HNE := hid (bl_drop_ne (X := X) (k := k + 1) (by omega))
      have hk1 : k + 1 < X.length := by omega
      have HK1 := hid hk1
      rw [bl_drop hk] at HG
      have HXK := hid (HXZ.out X[k] (List.getElem_mem hk))
      generalize X[k] = x at *
      have HST := hid (fun f' (h : stepF k (cutAt 32 x.data.toList) f = some f') => (go_step HNE.out h).symm.trans HG.out)
      have HBD2 := hid (fun (h : stepF k (cutAt 32 x.data.toList) f = none) => HOE.out k (HG.out.symm.trans (go_bad HNE.out h)))
      clear hlast hk1 hk hn1
      go_wp2_with fail
      refine (rcut32 x _ HXK.out).mono ?_
      rintro e w2 ⟨wv, Y, rfl, hY, hown, hb⟩
      have HR2 := hid (HR.out.below hb)
      obtain ⟨gy, cy, rfl, _, hgz, hcells⟩ := owned_cells hown (fun h => by subst h; exact cutAt_ne _ _ hY.symm)
      have HCY := hid hcells
      rw [← hY] at HST HBD2
      have hYl : (bl Y).length = Y.length := bl_len Y
      have hYle := many_le hY
      have HYL := hid hYl
      clear hb hown hcells hYl f0 f1 f2 ff hl r0 r1 r2 g0 g1 rf gf
      have f0 := HR2.out.c0
      have f1 := HR2.out.c1
      have f2 := HR2.out.c2
      have ff := HR2.out.fz
      obtain ⟨⟨r0, r1, r2⟩, ⟨g0, g1⟩, rf, gf, _, _⟩ := resW_at HR2.out.bl
      by_cases h00 : k = 0
      · have hk0 : ((k : Int) == 0) = true := beq_iff_eq.2 (by omega)
        have HK0 := hid h00
        by_cases h2 : Y.length = 2
        · obtain ⟨a, b, rfl⟩ := len2 h2
          have d0 : w2.cell? ⟨gy, 0, none⟩ = some (.string a) := HCY.out 0 (by simp)
          have d1 : w2.cell? ⟨gy, 1, none⟩ = some (.string b) := HCY.out 1 (by simp)
          have HS0 := hid (show stepF k (bl [a, b]) f = if a.data.toList = wModule then some (b, f.2) else none by rw [h00]; show stepF 0 [a.data.toList, b.data.toList] f = _; rw [step0_is, bt_of])
          clear h2 h00 hYle
          by_cases ha : a.data.toList = wModule
          · have HN := hid (HST.out _ (by rw [HS0.out, if_pos ha]))
            have hq : (a.toList == [109, 111, 100, 117, 108, 101]) = true := word_yes ha
            clear ha
            go_wp2_with fail
            refine ⟨⟨k + 1, (b, f.2), _, _, HK1.out, rfl, HN, hid ⟨by have := HLN.out.1; exact Nat.le_succ_of_le this, by have := HLN.out.2; exact Nat.le_succ_of_le this⟩, hid (HR2.out.path b)⟩, ?_⟩
            have := HK.out
            simp [intOf]; omega
          · have HV := hid (HBD2.out (by rw [HS0.out, if_neg ha]))
            have hq : (a.toList == [109, 111, 100, 117, 108, 101]) = false := word_no ha
            clear ha
            go_wp2_with fail
            refine bodyPost_ret (v := .tuple #[.agg #[.string ⟨#[]⟩, .slice none 0 0, .slice none 0 0], .agg #[.int .i64 1, .int .i64 k]]) (by simp [results, Tryz.results14, go_sem, r0, r1, r2, g0, g1]) rfl ?_
            exact rdq_bad (HB0.out.trans (HR2.out.bl.mono HB0.out.size)) HV.out rfl
        · have HV := hid (HBD2.out (by rw [h00]; exact step0_bad (by rw [HYL.out]; exact h2)))
          have h2n : ((Y.length : Int) != 2) = true := bne_iff_ne.2 (by omega)
          clear h2 h00
          go_wp2_with fail
          refine bodyPost_ret (v := .tuple #[.agg #[.string ⟨#[]⟩, .slice none 0 0, .slice none 0 0], .agg #[.int .i64 1, .int .i64 k]]) (by simp [results, Tryz.results14, go_sem, r0, r1, r2, g0, g1]) rfl ?_
          exact rdq_bad (HB0.out.trans (HR2.out.bl.mono HB0.out.size)) HV.out rfl
      · have hk0 : ((k : Int) == 0) = false := beq_eq_false_iff_ne.2 (by omega)
        by_cases h3 : Y.length = 3
        · obtain ⟨a, b, c, rfl⟩ := len3 h3
          have d0 : w2.cell? ⟨gy, 0, none⟩ = some (.string a) := HCY.out 0 (by simp)
          have d1 : w2.cell? ⟨gy, 1, none⟩ = some (.string b) := HCY.out 1 (by simp)
          have d2 : w2.cell? ⟨gy, 2, none⟩ = some (.string c) := HCY.out 2 (by simp)
          have HS1 := hid (show stepF k (bl [a, b, c]) f = if a.data.toList = wRequire ∧ f.2.2 = [] then some (f.1, f.2.1 ++ [(b, c)], f.2.2) else if a.data.toList = wExclude then some (f.1, f.2.1, f.2.2 ++ [(b, c)]) else none by
            show stepF k [a.data.toList, b.data.toList, c.data.toList] f = _
            rw [step1_is h00, bt_of, bt_of])
          have n0 := World.new_ne w2 ⟨gy, 0, none⟩ d0
          have n1 := World.new_ne w2 ⟨gy, 1, none⟩ d1
          have n2 := World.new_ne w2 ⟨gy, 2, none⟩ d2
          clear h3 h00 hYle
          go_wp2_with fail
          go_region_held (fun W => W.cell? ⟨gy, 1, none⟩ = some (.string b) ∧ W.cell? ⟨gy, 2, none⟩ = some (.string c)) (go_keep) (fail)
          have HBM := hid ((Below.refl w2.heap.size w2).alloc (Nat.le_refl _) (.cells #[.string b, .string c] 26))
          have HBD := hid (show Below w2.heap.size w2 (w2.alloc (.cells #[.string b, .string c] 26)).drew from HBM.out.trans ((below_drawn (w2.alloc (.cells #[.string b, .string c] 26)) 1).mono HBM.out.size))
          have HR3 := hid (HR2.out.below HBD.out)
          have m0 : (w2.alloc (.cells #[.string b, .string c] 26)).drew.cell? ⟨w2.heap.size, 0, none⟩ = some (.string b) := by simp
          have m1 : (w2.alloc (.cells #[.string b, .string c] 26)).drew.cell? ⟨w2.heap.size, 1, none⟩ = some (.string c) := by simp
          have HZ3 := hid (show w2.heap.size < (w2.alloc (.cells #[.string b, .string c] 26)).drew.heap.size by simp)
          replace d0 := cell_below HBD.out d0
          clear f0 f1 f2 ff r0 r1 r2 g0 g1 rf gf d1 d2 n0 n1 n2
          generalize (w2.alloc (.cells #[.string b, .string c] 26)).drew = w3 at *
          have f0 := HR3.out.c0
          have f1 := HR3.out.c1
          have f2 := HR3.out.c2
          have ff := HR3.out.fz
          obtain ⟨⟨r0, r1, r2⟩, ⟨g0, g1⟩, rf, gf, _, _⟩ := resW_at HR3.out.bl
          by_cases ha : a.data.toList = wRequire
          · have hqr : (a.toList == [114, 101, 113, 117, 105, 114, 101]) = true := word_yes ha
            have hqe : (a.toList == [101, 120, 99, 108, 117, 100, 101]) = false := word_no (by rw [ha]; decide)
            by_cases hX : f.2.2 = []
            · have HN := hid (HST.out _ (by rw [HS1.out, if_pos ⟨ha, hX⟩]))
              have hx0 : ((f.2.2.length : Int) == 0) = true := by rw [hX]; rfl
              clear ha hX
              have HBV := hid ((Below.refl w3.heap.size w3).alloc (Nat.le_refl _) (.cells #[.string b, .string c] 26))
              have HR4 := hid (HR3.out.below HBV.out)
              have nvf := HR4.out.nv
              have lf := lt_of_blk HR3.out.blk
              have HX1 := hid (HR4.out.c1)
              have HXF := hid (HR4.out.fz 1)
              have HLK := hid (show f.2.1.length ≤ 9000 by have := HLN.out.1; have := HK.out; have := HXB.out; omega)
              go_wp2_with (at_builtin; refine wpList_append_lies _ rfl _ _ 22 rfl (resW w).heap.size 26 i0 _ 2 32 Tryz.underlying22 hi0 hz0 hz1 hz2 rfl (by decide) _ f.2.1.length (flatM f.2.1) rfl HR4.out.ov ⟨w3.heap.size, 0, none⟩ 1 1 [.string b, .string c] rfl rfl ?c1 ?c2 (by decide) ?c3 ?c4 ?c5 (w3.heap.size + 1) ?c6 ?c7)
              case c1 => exact news2 _ _ _
              case c2 => exact two_one _ _
              case c3 => have := HLK.out; unfold maxLen; omega
              case c4 => have := HLK.out; omega
              case c5 => exact HR4.out.bl.size
              case c6 => simp
              intro g2 cap2 w5 hown hgrow hat hlt
              have HR5 := hid (HR3.out.req (m := (b, c)) HBV.out hown hgrow (hat.imp id (fun h => h.trans (by simp))))
              have c3 := (hgrow.cell_far ⟨w.heap.size + 1 + 1, 1, none⟩ (by simp; omega) (Ne.symm nvf)).trans HX1.out
              have f3 := (hgrow.frozen_far ⟨w.heap.size + 1 + 1, 1, none⟩ (by simp; omega) (Ne.symm nvf)).trans HXF.out
              clear hown hgrow hat hlt nvf lf f0 f1 f2 ff r0 r1 r2 g0 g1 rf gf d0 m0 m1
              go_wp2_with fail
              go_roundw
              case rel => exact ⟨k + 1, (f.1, f.2.1 ++ [(b, c)], f.2.2), _, _, HK1.out, by go_num, HN, hid ⟨by rw [List.length_append]; have := HLN.out.1; simp; omega, by have := HLN.out.2; exact Nat.le_succ_of_le this⟩, HR5⟩
              case measure => have := HK.out; have := HXB.out; simp [intOf]; omega
            · have HV := hid (HBD2.out (by rw [HS1.out, if_neg (fun h => hX h.2), if_neg (by rw [ha]; decide)]))
              have hx0 : ((f.2.2.length : Int) == 0) = false := beq_eq_false_iff_ne.2 (by have := List.length_pos_iff.2 hX; omega)
              clear ha hX
              go_wp2_with fail
              refine bodyPost_ret (v := .tuple #[.agg #[.string ⟨#[]⟩, .slice none 0 0, .slice none 0 0], .agg #[.int .i64 1, .int .i64 k]]) (by simp [results, Tryz.results14, go_sem, r0, r1, r2, g0, g1]) rfl ?_
              exact rdq_bad (HB0.out.trans (HR3.out.bl.mono HB0.out.size)) HV.out rfl
          · have hqr : (a.toList == [114, 101, 113, 117, 105, 114, 101]) = false := word_no ha
            by_cases he : a.data.toList = wExclude
            · have HN := hid (HST.out _ (by rw [HS1.out, if_neg (fun h => ha h.1), if_pos he]))
              have hqe : (a.toList == [101, 120, 99, 108, 117, 100, 101]) = true := word_yes he
              clear ha he
              have HBV := hid ((Below.refl w3.heap.size w3).alloc (Nat.le_refl _) (.cells #[.string b, .string c] 26))
              have HR4 := hid (HR3.out.below HBV.out)
              have nvf := HR4.out.nu
              have lf := lt_of_blk HR3.out.blk
              have HX1 := hid (HR4.out.c2)
              have HXF := hid (HR4.out.fz 2)
              have HLK := hid (show f.2.2.length ≤ 9000 by have := HLN.out.2; have := HK.out; have := HXB.out; omega)
              go_wp2_with (at_builtin; refine wpList_append_lies _ rfl _ _ 22 rfl (resW w).heap.size 26 i0 _ 2 32 Tryz.underlying22 hi0 hz0 hz1 hz2 rfl (by decide) _ f.2.2.length (flatM f.2.2) rfl HR4.out.ou ⟨w3.heap.size, 0, none⟩ 1 1 [.string b, .string c] rfl rfl ?e1 ?e2 (by decide) ?e3 ?e4 ?e5 (w3.heap.size + 1) ?e6 ?e7)
              case e1 => exact news2 _ _ _
              case e2 => exact two_one _ _
              case e3 => have := HLK.out; unfold maxLen; omega
              case e4 => have := HLK.out; omega
              case e5 => exact HR4.out.bl.size
              case e6 => simp
              intro g2 cap2 w5 hown hgrow hat hlt
              have HR5 := hid (HR3.out.exc (m := (b, c)) HBV.out hown hgrow (hat.imp id (fun h => h.trans (by simp))))
              have c3 := (hgrow.cell_far ⟨w.heap.size + 1 + 1, 2, none⟩ (by simp; omega) (Ne.symm nvf)).trans HX1.out
              have f3 := (hgrow.frozen_far ⟨w.heap.size + 1 + 1, 2, none⟩ (by simp; omega) (Ne.symm nvf)).trans HXF.out
              clear hown hgrow hat hlt nvf lf f0 f1 f2 ff r0 r1 r2 g0 g1 rf gf d0 m0 m1
              go_wp2_with fail
              go_roundw
              case rel => exact ⟨k + 1, (f.1, f.2.1, f.2.2 ++ [(b, c)]), _, _, HK1.out, by go_num, HN, hid ⟨by have := HLN.out.1; exact Nat.le_succ_of_le this, by rw [List.length_append]; have := HLN.out.2; simp; omega⟩, HR5⟩
              case measure => have := HK.out; have := HXB.out; simp [intOf]; omega
            · have HV := hid (HBD2.out (by rw [HS1.out, if_neg (fun h => ha h.1), if_neg he]))
              have hqe : (a.toList == [101, 120, 99, 108, 117, 100, 101]) = false := word_no he
              clear ha he
              go_wp2_with fail
              refine bodyPost_ret (v := .tuple #[.agg #[.string ⟨#[]⟩, .slice none 0 0, .slice none 0 0], .agg #[.int .i64 1, .int .i64 k]]) (by simp [results, Tryz.results14, go_sem, r0, r1, r2, g0, g1]) rfl ?_
              exact rdq_bad (HB0.out.trans (HR3.out.bl.mono HB0.out.size)) HV.out rfl
        · have HV := hid (HBD2.out (step1_bad h00 (by rw [HYL.out]; exact h3)))
          have h3n : ((Y.length : Int) != 3) = true := bne_iff_ne.2 (by omega)
          clear h3 h00
          go_wp2_with fail
          refine bodyPost_ret (v := .tuple #[.agg #[.string ⟨#[]⟩, .slice none 0 0, .slice none 0 0], .agg #[.int .i64 1, .int .i64 k]]) (by simp [results, Tryz.results14, go_sem, r0, r1, r2, g0, g1]) rfl ?_
          exact rdq_bad (HB0.out.trans (HR2.out.bl.mono HB0.out.size)) HV.out rfl
theorem rdf_any (s : ByteArray) (w : World) : Calls Tryz.prog 14 #[.string s] w fun e w' => RdQ s.data.toList w w' e := by
  by_cases h : 8000 < s.size
  · exact rdf_long s w h
  · exact rdf_short s w h
theorem fread_out (s : ByteArray) (A : Nat → Addr) (m : Int) (w : World) (S : Te w A m) : Calls Tryz.prog 13 #[.string s] w fun e w' =>
    ∃ v u x, e = .returned (.tuple #[.agg #[.string (readOut s.data.toList).2.1, v, u], x]) ∧ ErrAt w' A x (readOut s.data.toList).1.1 (readOut s.data.toList).1.2 ∧ MsAt w' v (readOut s.data.toList).2.2.1 ∧ MsAt w' u (readOut s.data.toList).2.2.2 ∧ Below w.heap.size w w' := by
  refine (fread_any s A m w S).mono fun e w' ⟨P, v, u, x, h1, h2, h3⟩ => ?_
  unfold readOut
  cases hr : readF s.data.toList with
  | error co =>
    rw [hr] at h3
    obtain ⟨h4, _, rfl, rfl, rfl⟩ := h3
    exact ⟨_, _, x, h1, h4, ms_nil _, ms_nil _, h2⟩
  | ok f =>
    rw [hr] at h3
    obtain ⟨rfl, rfl, h4, h5⟩ := h3
    exact ⟨_, _, _, h1, rfl, h4, h5, h2⟩
end Ve
end Go.Proofs.YtjhlkjgijbobcaaGreatDoor
