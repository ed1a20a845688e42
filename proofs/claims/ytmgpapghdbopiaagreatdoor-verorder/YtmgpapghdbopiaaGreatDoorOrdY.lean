/-
  pewholderlaw1.VerOrder walked.
-/
import Derived.Test.YtmgpapghdbopiaaGreatDoorOrdX
import Derived.Test.YtmgpapghdbopiaaGreatDoorOrdN
import Derived.Test.YtmgpapghdbopiaaGreatDoorVerN
namespace Go.Proofs.YtmgpapghdbopiaaGreatDoor
open Go.RowKit
namespace Ve

theorem order_many (sa : Option Addr) (n cap : Nat) (aT aB : Addr) (m : Int) (w : World) (S : Vs w aT aB m) (htab : Lib.TabIs Tryz.prog w powName .u64 Lib.pow10Tab) (hn : 12 < n) :
    Calls Tryz.prog 4 #[.slice sa n cap] w fun e w' => e = .returned (.bool true) ∧ Below w.heap.size w w' := by
  have HV := hid (versed_any aT aB m w S htab)
  have h1 : (12 : Int) < (n : Int) := by omega
  clear S htab
  go_enter Tryz.func4, Tryz.ntmps4
  go_wp2_with fail
  refine HV.out.mono ?_
  rintro e w1 ⟨rfl, hb⟩
  have HB := hid hb
  clear hb
  go_wp2_with fail
  go_ret
  exact ⟨rfl, HB.out⟩

theorem len_sub : ∀ (a b : List (List UInt8)), a.Nodup → (∀ x, x ∈ a → x ∈ b) → a.length ≤ b.length
  | [], _, _, _ => Nat.zero_le _
  | x :: a, b, hn, hs => by
    obtain ⟨h1, h2⟩ := List.nodup_cons.1 hn
    have hx := hs x (by simp)
    have h3 := len_sub a (b.erase x) h2 (fun y hy => (List.mem_erase_of_ne (fun e => h1 (by rw [← e]; exact hy))).2 (hs y (List.mem_cons_of_mem _ hy)))
    rw [List.length_erase_of_mem hx] at h3
    have := List.length_pos_of_mem hx
    simp
    omega
theorem kept_len {L X : List ByteArray} (h : Kept L L.length X) : X.length ≤ L.length := by
  have := len_sub (bl X) (bl L) (rises_nodup h.1) (fun t ht => by have := ((h.2 t).1 ht).1; rw [List.take_length] at this; exact this)
  rw [bl_len, bl_len] at this
  exact this
theorem max_size {t q : ByteArray} (h1 : t.size ≤ 80) (h2 : q.size ≤ 80) : (maxB t q).size ≤ 80 := by
  unfold maxB
  split
  · split
    · split
      · exact h2
      · exact h1
    · exact h1
  · split
    · exact h2
    · exact Nat.zero_le _
theorem owned_flat {w : World} {base : Nat} {e : TypeId} {v : Value} {X : List ByteArray} (h : w.ownsRow base e 1 v X.length (X.map Value.string)) : ∃ sp sc, v = .slice sp X.length sc ∧ (X ≠ [] → ∃ g, sp = some ⟨g, 0, none⟩ ∧ ∀ j (hj : j < X.length), w.cell? ⟨g, j, none⟩ = some (.string X[j])) := by
  by_cases hX : X = []
  · subst hX
    rcases h.2 with ⟨h5, _⟩ | ⟨g', cap', _, h5, _⟩
    · exact ⟨none, 0, h5, fun h => absurd rfl h⟩
    · exact ⟨_, cap', h5, fun h => absurd rfl h⟩
  · obtain ⟨g', cp', h5, _, _, hc'⟩ := owned_cells h hX
    exact ⟨_, cp', h5, fun _ => ⟨g', rfl, hc'⟩⟩
/-- ver.Sort of the row that was made of a list. -/
theorem sort_own (L : List ByteArray) (v : Value) (base : Nat) (aT aB : Addr) (m : Int) (w : World) (S : Vs w aT aB m) (htab : Lib.TabIs Tryz.prog w powName .u64 Lib.pow10Tab) (hown : w.ownsRow base 9 1 v L.length (L.map Value.string)) (hnl : L = [] → v = .slice none 0 0) (h12 : L.length ≤ 12) (hz : ∀ x, x ∈ L → x.size ≤ 80) :
    Calls Tryz.prog 19 #[v] w fun e w' => ∃ sp sc X, e = .returned (.slice sp X.length sc) ∧ (X ≠ [] → ∃ g, sp = some ⟨g, 0, none⟩ ∧ ∀ j (hj : j < X.length), w'.cell? ⟨g, j, none⟩ = some (.string X[j])) ∧ Kept L L.length X ∧ Below w.heap.size w w' := by
  by_cases hL : L = []
  · subst hL
    rw [hnl rfl]
    exact (vsort_none w).mono fun e w' ⟨h1, h2⟩ => ⟨none, 0, [], h1, fun h => absurd rfl h, kept_none, h2⟩
  · obtain ⟨g, cp, rfl, _, _, hc⟩ := owned_cells hown hL
    refine (vsort_any g 0 cp L aT aB m w S htab (fun j hj => by rw [Nat.zero_add]; exact hc j hj) (Nat.le_trans h12 (by decide)) hz).mono fun e w' ⟨v', X, h1, h2, h3, h4⟩ => ?_
    obtain ⟨sp, sc, rfl, h5⟩ := owned_flat h2
    exact ⟨sp, sc, X, h1, h5, h3, h4⟩

/-- What the loops read: the list, and the sorted one. -/
structure Ov (w0 W : World) (b0 o0 : Nat) (L X : List ByteArray) (sp : Option Addr) : Prop where
  bl : Below w0.heap.size w0 W
  ls : ∀ j (h : j < L.length), W.cell? ⟨b0, o0 + j, none⟩ = some (.string L[j])
  xs : X ≠ [] → ∃ g, sp = some ⟨g, 0, none⟩ ∧ ∀ j (hj : j < X.length), W.cell? ⟨g, j, none⟩ = some (.string X[j])
theorem Ov.below {w0 W W' : World} {b0 o0 : Nat} {L X : List ByteArray} {sp : Option Addr} (h : Ov w0 W b0 o0 L X sp) (hb : Below W.heap.size W W') : Ov w0 W' b0 o0 L X sp :=
  ⟨h.bl.trans (hb.mono h.bl.size), fun j hj => cell_below hb (h.ls j hj), fun hX => by
    obtain ⟨g, e, hc⟩ := h.xs hX
    exact ⟨g, e, fun j hj => cell_below hb (hc j hj)⟩⟩

set_option maxRecDepth 100000 in
set_option maxHeartbeats 8000000 in
theorem order_some (b0 o0 cap : Nat) (L : List ByteArray) (aT aB : Addr) (m : Int) (w : World) (S : Vs w aT aB m) (htab : Lib.TabIs Tryz.prog w powName .u64 Lib.pow10Tab) (hL : ∀ j (h : j < L.length), w.cell? ⟨b0, o0 + j, none⟩ = some (.string L[j])) (h12 : L.length ≤ 12) (hz : ∀ x, x ∈ L → x.size ≤ maxLen) :
    Calls Tryz.prog 4 #[.slice (some ⟨b0, o0, none⟩) L.length cap] w fun e w' => e = .returned (.bool true) ∧ Below w.heap.size w w' := by
  obtain ⟨i0, hi, hz0, hz1, hz2⟩ := info_parts infoStr
  have HV := hid (versed_any aT aB m w S htab)
  have HS := hid S
  have HTB := hid htab
  have HL := hid hL
  have HZ := hid hz
  have h1 : ¬ (12 : Int) < (L.length : Int) := by omega
  clear S htab hL hz
  go_enter Tryz.func4, Tryz.ntmps4
  go_wp2_with fail
  refine HV.out.mono ?_
  rintro e w1 ⟨rfl, hb1⟩
  have HB1 := hid hb1
  clear hb1
  go_wp2_with fail
  go_loopw [4, 5] (fun v i wr => ∃ k : Nat, k ≤ L.length ∧ i = .int .i64 k ∧ Hid (∀ x, x ∈ L.take k → x.size ≤ 80) ∧ Hid (wr.ownsRow w1.heap.size 9 1 v k ((L.take k).map Value.string)) ∧ Hid (k = 0 → v = .slice none 0 0) ∧ Hid (Below w1.heap.size w1 wr)) (fun _ i _ => L.length - (intOf i).toNat)
  case atStart => exact ⟨0, Nat.zero_le _, rfl, hid (fun x hx => by simp at hx), hid (World.ownsRow_nil _ _ _ _), hid (fun _ => rfl), hid (Below.refl _ _)⟩
  case round =>
    obtain ⟨k, hk, rfl, HZK, HO, HNL, HBR⟩ := hrel
    have HBW := hid (HB1.out.trans (HBR.out.mono HB1.out.size))
    by_cases hkL : k < L.length
    · have hcell := cell_below HBW.out (HL.out k hkL)
      have hqm : L[k].size ≤ 9223372036854775807 := HZ.out _ (List.getElem_mem hkL)
      have HTK := hid (show (L.take (k + 1)).map Value.string = (L.take k).map Value.string ++ [.string L[k]] by rw [List.take_succ_eq_append_getElem hkL, List.map_append]; rfl)
      have HMT := hid (show ∀ x, x ∈ L.take (k + 1) → x ∈ L.take k ∨ x = L[k] from fun x hx => by
        rw [List.take_succ_eq_append_getElem hkL] at hx
        rcases List.mem_append.1 hx with h | h
        · exact Or.inl h
        · exact Or.inr (List.mem_singleton.1 h))
      generalize L[k] = q at *
      have hkl : (k : Int) < (L.length : Int) := by omega
      have hk0 : (0 : Int) ≤ (k : Int) := by omega
      have hwz := HBR.out.size
      by_cases hq : 80 < q.size
      · have hqi : (80 : Int) < (q.size : Int) := by omega
        go_wp2_with fail
        go_ret
        exact ⟨rfl, HBW.out⟩
      · have hqi : ¬ (80 : Int) < (q.size : Int) := by omega
        have HZ2 := hid (show ∀ x, x ∈ L.take (k + 1) → x.size ≤ 80 from fun x hx => by
          rcases HMT.out x hx with h | h
          · exact HZK.out x h
          · rw [h]; omega)
        go_wp2_with (at_builtin; refine wpList_append_own _ rfl _ _ 24 rfl w1.heap.size 9 i0 (.string ByteArray.empty) 1 16 Tryz.underlying24 hi hz0 hz1 hz2 rfl (by decide) _ _ _ rfl (HO.out.alloc _) ⟨wr.heap.size, 0, none⟩ 1 1 [.string q] rfl rfl ?c1 ?c2 ?c3 ?c4 ?c5 ?_)
        case c2 => first | rfl | exact fun _ => rfl | (simp; rfl)
        case c3 => first | (unfold maxLen; omega) | omega | (simp; omega)
        case c4 => first | omega | (simp; omega) | (unfold maxLen; omega)
        case c5 => first | omega | (simp; omega)
        intro v' w3 hown' hgrow hiff
        have HR := hid (rel_app hwz HBR.out HO.out (Below.refl _ _) hgrow)
        have HO' := hid hown'
        clear hown' hgrow hiff
        go_wp2_with fail
        go_roundw
        case rel => exact ⟨k + 1, by omega, by go_num, HZ2, hid (by rw [HTK.out]; simpa using HO'.out), hid (fun h => absurd h (Nat.succ_ne_zero k)), HR⟩
        case measure => simp [intOf]; omega
    · obtain rfl : k = L.length := by omega
      have HZL := hid (show ∀ x, x ∈ L → x.size ≤ 80 by have := HZK.out; rw [List.take_length] at this; exact this)
      have HOL := hid (show wr.ownsRow w1.heap.size 9 1 u4 L.length (L.map Value.string) by have := HO.out; rw [List.take_length] at this; exact this)
      have HSO := hid (sort_own L u4 w1.heap.size aT aB m wr (HS.out.below HBW.out) (tab_below HTB.out HBW.out) HOL.out (fun h => HNL.out (by rw [h]; rfl)) h12 HZL.out)
      go_wp2_with fail
      refine HSO.out.mono ?_
      rintro e ws ⟨sp, sc, X, rfl, hxs, hK, hbs⟩
      have HK := hid hK
      have HOV := hid (show Ov w ws b0 o0 L X sp from ⟨HBW.out.trans (hbs.mono HBW.out.size), fun j hj => cell_below (HBW.out.trans (hbs.mono HBW.out.size)) (HL.out j hj), hxs⟩)
      have hX12 : X.length ≤ 12 := by have := kept_len hK; omega
      have HVX := hid (show ∀ t, t ∈ bl X → verErr t = 0 from fun t ht => ((hK.2 t).1 ht).2)
      have HXS := hid (show ∀ x, x ∈ X → x.size ≤ 80 from fun x hx => by
        have h1 := ((hK.2 x.data.toList).1 (bl_mem hx)).1
        rw [List.take_length] at h1
        obtain ⟨y, hy, e⟩ := List.mem_map.1 h1
        have h2 := HZL.out y hy
        have h3 := congrArg List.length e
        rw [len_eq, len_eq] at h3
        omega)
      have HMM := hid (show ∀ q : ByteArray, q ∈ L → verErr q.data.toList = 0 → q.data.toList ∈ bl X from fun q hq hv => (hK.2 _).2 ⟨by rw [List.take_length]; exact bl_mem hq, hv⟩)
      clear hxs hK hbs
      go_wp2_with fail
      go_loopw [7, 8] (fun tp i wr => ∃ (k : Nat) (t : ByteArray), k ≤ L.length ∧ i = .int .i64 k ∧ tp = .string t ∧ t.size ≤ 80 ∧ Hid (TopIs (goods (L.take k)) t.data.toList) ∧ Hid (Ov w wr b0 o0 L X sp)) (fun _ i _ => L.length - (intOf i).toNat)
      case atStart => exact ⟨0, ⟨#[]⟩, Nat.zero_le _, rfl, rfl, Nat.zero_le _, hid (Or.inl ⟨by simp [goods, bl], rfl⟩), HOV⟩
      case round =>
        obtain ⟨k, t, hk, rfl, rfl, ht80, HTP, HOV1⟩ := hrel
        by_cases hkL : k < L.length
        · have hcell := HOV1.out.ls k hkL
          have hq80 : L[k].size ≤ 80 := HZL.out _ (List.getElem_mem hkL)
          have HGS := hid (goods_snoc L k hkL)
          have HQM := hid (HMM.out L[k] (List.getElem_mem hkL))
          have HLC := hid (fun (W : World) (h : Ov w W b0 o0 L X sp) => h.ls k hkL)
          generalize L[k] = q at *
          have hkl : (k : Int) < (L.length : Int) := by omega
          have hk0 : (0 : Int) ≤ (k : Int) := by omega
          have HCH := hid (fun W (h : Ov w W b0 o0 L X sp) => check_any q aT aB m W (by omega) (HS.out.below h.bl))
          by_cases hv : verErr q.data.toList = 0
          · rw [hv, errV0] at HCH
            rw [if_pos hv] at HGS
            have HTN := hid (show TopIs (goods (L.take (k + 1))) (maxB t q).data.toList by rw [HGS.out]; exact top_next HTP.out (goods_right _) hv)
            have hmx := max_size ht80 hq80
            have HMX := hid (fun W (h : Ov w W b0 o0 L X sp) => max_any t q aT aB m W (by omega) (by omega) (HS.out.below h.bl))
            have HCO := hid (count_one HK.out.1 (HQM.out hv))
            generalize maxB t q = mt at *
            clear hv
            go_wp2_with fail
            refine (HCH.out _ HOV1.out).mono ?_
            rintro e w5 ⟨rfl, hb5⟩
            have HOV2 := hid (HOV1.out.below hb5)
            have hc2 := HLC.out _ HOV2.out
            clear hb5 hcell
            go_wp2_with fail
            refine (HMX.out _ HOV2.out).mono ?_
            rintro e w6 ⟨rfl, hb6⟩
            have HOV3 := hid (HOV2.out.below hb6)
            clear hb6 hc2
            go_wp2_with fail
            go_loopw [9, 10] (fun c j wr3 => ∃ i : Nat, i ≤ X.length ∧ j = .int .i64 i ∧ c = .int .i64 (((bl (X.take i)).count q.data.toList : Nat) : Int) ∧ Hid (Ov w wr3 b0 o0 L X sp)) (fun _ j _ => X.length - (intOf j).toNat)
            case atStart => exact ⟨0, Nat.zero_le _, rfl, by simp [bl], HOV3⟩
            case round =>
              obtain ⟨i, hiX, rfl, rfl, HOV4⟩ := hrel
              by_cases hil : i < X.length
              · obtain ⟨g, rfl, hcx⟩ := HOV4.out.xs (by intro e; subst e; cases hil)
                have hx := hcx i hil
                have hc4 := HLC.out _ HOV4.out
                have HST := hid (count_step X i hil q.data.toList)
                have hcl : (bl (X.take i)).count q.data.toList ≤ 12 := by
                  have := List.count_le_length (a := q.data.toList) (l := bl (X.take i))
                  rw [bl_len] at this
                  simp at this
                  omega
                generalize X[i] = xi at *
                have hi0 : (0 : Int) ≤ (i : Int) := by omega
                have hil2 : (i : Int) < (X.length : Int) := by omega
                clear hcx
                by_cases he : xi = q
                · subst he
                  rw [if_pos rfl] at HST
                  have hss : (xi.toList == xi.toList) = true := by simp
                  generalize (bl (X.take i)).count xi.data.toList = cn at *
                  go_wp2_with fail
                  go_quiet (fail)
                  go_wp2_with fail
                  go_roundw
                  case rel => exact ⟨i + 1, by omega, by go_num, by rw [HST.out]; go_num, hid (HOV4.out.below (below_drawn _ _))⟩
                  case measure => simp [intOf]; omega
                · have hss := str_ne he
                  rw [if_neg (fun e => he (str_ext e)), Nat.add_zero] at HST
                  generalize (bl (X.take i)).count q.data.toList = cn at *
                  go_wp2_with fail
                  go_quiet (fail)
                  go_wp2_with fail
                  go_roundw
                  case rel => exact ⟨i + 1, by omega, by go_num, by rw [HST.out]; first | done | rfl | simp, hid (HOV4.out.below (below_drawn _ _))⟩
                  case measure => simp [intOf]; omega
              · obtain rfl : i = X.length := by omega
                rw [List.take_length, HCO.out]
                go_wp2_with fail
                go_roundw
                case rel => exact ⟨k + 1, mt, by omega, by go_num, rfl, hmx, HTN, HOV4⟩
                case measure => simp [intOf]; omega
          · obtain ⟨a9, ha9⟩ := errV_ne aT aB hv
            rw [ha9] at HCH
            rw [if_neg hv] at HGS
            clear hv ha9
            go_wp2_with fail
            refine (HCH.out _ HOV1.out).mono ?_
            rintro e w5 ⟨rfl, hb5⟩
            have HOV2 := hid (HOV1.out.below hb5)
            clear hb5 hcell
            go_wp2_with fail
            go_roundw
            case rel => exact ⟨k + 1, t, by omega, by go_num, rfl, ht80, hid (by rw [HGS.out]; exact HTP.out), HOV2⟩
            case measure => simp [intOf]; omega
        · obtain rfl : k = L.length := by omega
          have HTL := hid (show TopIs (goods L) t.data.toList by have := HTP.out; rw [List.take_length] at this; exact this)
          go_wp2_with fail
          go_loopw [11] (fun iv wr => ∃ i : Nat, i ≤ X.length ∧ iv = .int .i64 i ∧ Hid (Ov w wr b0 o0 L X sp)) (fun iv _ => X.length - (intOf iv).toNat)
          case atStart => exact ⟨0, Nat.zero_le _, rfl, HOV1⟩
          case round =>
            obtain ⟨i, hiX, rfl, HOV1⟩ := hrel
            by_cases hil : i < X.length
            · have hil2 : (i : Int) < (X.length : Int) := by omega
              have hi0 : (0 : Int) ≤ (i : Int) := by omega
              go_wp2_with fail
              go_loopw [12] (fun kv wr => ∃ j : Nat, j ≤ X.length ∧ kv = .int .i64 j ∧ Hid (Ov w wr b0 o0 L X sp)) (fun kv _ => X.length - (intOf kv).toNat)
              case atStart => exact ⟨0, Nat.zero_le _, rfl, HOV1⟩
              case round =>
                obtain ⟨j, hjX, rfl, HOV2⟩ := hrel
                by_cases hjl : j < X.length
                · have hjl2 : (j : Int) < (X.length : Int) := by omega
                  have hj0 : (0 : Int) ≤ (j : Int) := by omega
                  obtain ⟨g, rfl, _⟩ := HOV2.out.xs (by intro e; subst e; cases hjl)
                  have HTW := hid (fun (W : World) (h : Ov w W b0 o0 L X (some ⟨g, 0, none⟩)) => show W.cell? ⟨g, i, none⟩ = some (.string X[i]) ∧ W.cell? ⟨g, j, none⟩ = some (.string X[j]) ∧ Hid (Ov w W b0 o0 L X (some ⟨g, 0, none⟩)) from by
                    obtain ⟨g', e, hc⟩ := h.xs (by intro e; subst e; cases hjl)
                    obtain rfl : g = g' := by injection e with e; injection e
                    exact ⟨hc i hil, hc j hjl, hid h⟩)
                  have HLE := hid (fun W (h : Ov w W b0 o0 L X (some ⟨g, 0, none⟩)) => less_any X[i] X[j] aT aB m W (by have := HXS.out _ (List.getElem_mem hil); omega) (by have := HXS.out _ (List.getElem_mem hjl); omega) (HS.out.below h.bl))
                  rw [less_at HK.out.1 HVX.out i j hil hjl] at HLE
                  generalize X[i] = xi at *
                  generalize X[j] = xj at *
                  obtain ⟨x1, x2, _⟩ := HTW.out _ HOV2.out
                  by_cases hij : i < j
                  · have hij2 : (i : Int) < (j : Int) := by omega
                    rw [decide_eq_true hij] at HLE
                    go_wp2_with fail
                    go_region_held (fun W => W.cell? ⟨g, i, none⟩ = some (.string xi) ∧ W.cell? ⟨g, j, none⟩ = some (.string xj) ∧ Hid (Ov w W b0 o0 L X (some ⟨g, 0, none⟩))) (first | exact HTW.out _ HOV3.out | exact HTW.out _ (HOV2.out.below (below_drawn _ 1))) (first
                      | (go_at_call 15; refine (HLE.out _ (HOV2.out.below (below_drawn _ 1))).mono ?_; rintro e w' ⟨rfl, hb⟩; have HOV3 := hid ((HOV2.out.below (below_drawn _ 1)).below hb); clear hb))
                    all_goals
                      go_wp2_with fail
                      go_roundw
                      case rel => exact ⟨j + 1, by omega, by go_num, HOV3⟩
                      case measure => simp [intOf]; omega
                  · have hij2 : ¬ (i : Int) < (j : Int) := by omega
                    rw [decide_eq_false hij] at HLE
                    go_wp2_with fail
                    go_region_held (fun W => W.cell? ⟨g, i, none⟩ = some (.string xi) ∧ W.cell? ⟨g, j, none⟩ = some (.string xj) ∧ Hid (Ov w W b0 o0 L X (some ⟨g, 0, none⟩))) (first | exact HTW.out _ HOV3.out | exact HTW.out _ (HOV2.out.below (below_drawn _ 1))) (first
                      | (go_at_call 15; refine (HLE.out _ (HOV2.out.below (below_drawn _ 1))).mono ?_; rintro e w' ⟨rfl, hb⟩; have HOV3 := hid ((HOV2.out.below (below_drawn _ 1)).below hb); clear hb))
                    all_goals
                      go_wp2_with fail
                      go_roundw
                      case rel => exact ⟨j + 1, by omega, by go_num, HOV3⟩
                      case measure => simp [intOf]; omega
                · obtain rfl : j = X.length := by omega
                  go_wp2_with fail
                  go_roundw
                  case rel => exact ⟨i + 1, by omega, by go_num, HOV2⟩
                  case measure => simp [intOf]; omega
            · obtain rfl : i = X.length := by omega
              have HSV := hid (sortVers_some b0 o0 cap L wr HOV1.out.ls (Nat.le_trans h12 (by decide)) HZL.out)
              have HTX := hid (fun h => top_last HK.out HTL.out h)
              have HTN := hid (fun h => top_none HK.out HTL.out h)
              go_wp2_with fail
              refine HSV.out.mono ?_
              rintro e w5 ⟨v5, Y, rfl, hown, hKY, hb5⟩
              obtain rfl := kept_same HK.out hKY
              obtain ⟨sq, qc, rfl, hq⟩ := owned_flat hown
              have HOV5 := hid (HOV1.out.below hb5)
              have HSA := hid (same_all sp sq sc qc X X w5 (by omega) (by
                by_cases hX : X = []
                · exact Or.inl hX
                · exact Or.inr (HOV5.out.xs hX)) (fun hX => by
                obtain ⟨g, e, hc⟩ := hq hX
                exact ⟨g, 0, e, fun j hj => by rw [Nat.zero_add]; exact hc j hj⟩))
              rw [decide_eq_true rfl] at HSA
              clear hown hKY hq hb5
              go_wp2_with fail
              refine HSA.out.mono ?_
              rintro e w6 ⟨rfl, hb6⟩
              have HOV6 := hid (HOV5.out.below hb6)
              clear hb6
              by_cases hX : X.length = 0
              · obtain rfl := HTN.out hX
                have hXi : (X.length : Int) = 0 := by omega
                go_wp2_with fail
                go_ret
                exact ⟨rfl, HOV6.out.bl⟩
              · have hlt := HTX.out (by omega)
                obtain ⟨g, rfl, hc⟩ := HOV6.out.xs (by intro e; subst e; exact hX rfl)
                have hcl := hc (X.length - 1) (by omega)
                rw [hlt] at hcl
                have hXi : ¬ (X.length : Int) = 0 := by omega
                have hXp : (0 : Int) < (X.length : Int) := by omega
                have hX1 : (0 : Int) ≤ (X.length : Int) - 1 := by omega
                have hX2 : (X.length : Int) - 1 < (X.length : Int) := by omega
                have hwx : IntKind.i64.wrap ((X.length : Int) - 1) = (X.length : Int) - 1 := by rw [IntKind.wrap_i64] <;> omega
                have htn : ((X.length : Int) - 1).toNat = X.length - 1 := by omega
                have hss : (t.toList == t.toList) = true := by simp
                clear hc hlt
                go_wp2_with fail
                go_ret
                exact ⟨rfl, HOV6.out.bl⟩

theorem sortVers_zero (sa : Option Addr) (cap : Nat) (W : World) : Calls Tryz.prog 20 #[.slice sa 0 cap] W fun e w' => e = .returned (.slice none 0 0) ∧ w' = W := by
  go_enter Tryz.func20, Tryz.ntmps20
  go_wp2_with fail
  go_loop [3, 4] (fun v i => v = .slice none 0 0 ∧ i = .int .i64 0) (fun _ _ => 0)
  case atStart => exact ⟨rfl, rfl⟩
  case round =>
    obtain ⟨rfl, rfl⟩ := hrel
    go_wp2_with fail
    go_ret
    exact ⟨rfl, rfl⟩
set_option maxHeartbeats 4000000 in
theorem order_nil (sa : Option Addr) (cap : Nat) (aT aB : Addr) (m : Int) (w : World) (S : Vs w aT aB m) (htab : Lib.TabIs Tryz.prog w powName .u64 Lib.pow10Tab) :
    Calls Tryz.prog 4 #[.slice sa 0 cap] w fun e w' => e = .returned (.bool true) ∧ Below w.heap.size w w' := by
  have HV := hid (versed_any aT aB m w S htab)
  have HVS := hid vsort_none
  have HSV := hid (sortVers_zero sa cap)
  have HST := hid (fun W => same_all none none 0 0 [] [] W (by simp) (Or.inl rfl) (fun h => absurd rfl h))
  clear S htab
  go_enter Tryz.func4, Tryz.ntmps4
  go_wp2_with fail
  refine HV.out.mono ?_
  rintro e w1 ⟨rfl, hb1⟩
  have HB1 := hid hb1
  clear hb1
  go_wp2_with fail
  go_loopw [4, 5] (fun v i wr => v = .slice none 0 0 ∧ i = .int .i64 0 ∧ Hid (Below w.heap.size w wr)) (fun _ _ _ => 0)
  case atStart => exact ⟨rfl, rfl, HB1⟩
  case round =>
    obtain ⟨rfl, rfl, HB2⟩ := hrel
    go_wp2_with fail
    refine (HVS.out _).mono ?_
    rintro e w3 ⟨rfl, hb3⟩
    have HB3 := hid (HB2.out.trans (hb3.mono HB2.out.size))
    clear hb3
    go_wp2_with fail
    go_loopw [7, 8] (fun t i wr => t = .string ⟨#[]⟩ ∧ i = .int .i64 0 ∧ Hid (Below w.heap.size w wr)) (fun _ _ _ => 0)
    case atStart => exact ⟨rfl, rfl, HB3⟩
    case round =>
      obtain ⟨rfl, rfl, HB4⟩ := hrel
      go_wp2_with fail
      go_loopw [11] (fun i wr => i = .int .i64 0 ∧ Hid (Below w.heap.size w wr)) (fun _ _ => 0)
      case atStart => exact ⟨rfl, HB4⟩
      case round =>
        obtain ⟨rfl, HB5⟩ := hrel
        go_wp2_with fail
        refine (HSV.out _).mono ?_
        rintro e w6 ⟨rfl, rfl⟩
        go_wp2_with fail
        refine (HST.out _).mono ?_
        rintro e w7 ⟨rfl, hb7⟩
        have HB7 := hid (HB5.out.trans (hb7.mono HB5.out.size))
        clear hb7
        go_wp2_with fail
        go_ret
        exact ⟨rfl, HB7.out⟩
/-- pewholderlaw1.VerOrder: true for every input. -/
theorem verOrder_any (sa : Option Addr) (cap : Nat) (L : List ByteArray) (aT aB : Addr) (m : Int) (w : World) (S : Vs w aT aB m) (htab : Lib.TabIs Tryz.prog w powName .u64 Lib.pow10Tab) (hL : L ≠ [] → ∃ b o, sa = some ⟨b, o, none⟩ ∧ ∀ j (h : j < L.length), w.cell? ⟨b, o + j, none⟩ = some (.string L[j])) (hz : ∀ x, x ∈ L → x.size ≤ maxLen) :
    Calls Tryz.prog 4 #[.slice sa L.length cap] w fun e w' => e = .returned (.bool true) ∧ Below w.heap.size w w' := by
  by_cases h12 : 12 < L.length
  · exact order_many sa L.length cap aT aB m w S htab h12
  · by_cases h0 : L = []
    · subst h0
      exact order_nil sa cap aT aB m w S htab
    · obtain ⟨b, o, rfl, hc⟩ := hL h0
      exact order_some b o cap L aT aB m w S htab hc (by omega) hz
end Ve
end Go.Proofs.YtmgpapghdbopiaaGreatDoor
