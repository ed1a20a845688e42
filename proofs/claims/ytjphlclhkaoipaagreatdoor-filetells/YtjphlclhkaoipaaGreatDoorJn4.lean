/-
  A file that is being read, in memory: its block, the two rows that it owns.
-/
import Derived.Test.YtjphlclhkaoipaaGreatDoorJn3
import Derived.Deep.AppendLies
import Derived.Deep.RegionHeld3
import Derived.Shelf.Strings.Builder1
import Derived.Shelf.Strings.Builder2
import Derived.Shelf.Strings.OnBuilder
import Derived.Shelf.Strings.Trim
import Derived.Shelf.Small.Utf8
import Derived.Shelf.Small.Strs
import Derived.Shelf.Small.Wraps
import Derived.Shelf.Strings.Search1
import Derived.Shelf.Strings.Search2
import Derived.Shelf.Strings.Search3
import Derived.Shelf.Strings.Cut
import Derived.Shelf.Strings.Count
import Derived.Shelf.LaysM
import Derived.Shelf.Strings.Shaped
import Derived.Shelf.Strings.Prefix
import Derived.Shelf.Strings.Split
import Derived.Shelf.Strings.Runes
import Derived.Shelf.Strings.AsciiSet
import Derived.Shelf.Unicode.DecodeSlow
import Derived.Test.YtjphlclhkaoipaaGreatDoorProg
import Derived.Test.YtjphlclhkaoipaaGreatDoorShelfM
namespace Go.Proofs.YtjphlclhkaoipaaGreatDoor
open Go.RowKit
namespace Ve

def flatM (L : List Bm) : List Value := L.flatMap fun m => [.string m.1, .string m.2]
theorem flatM_len (L : List Bm) : (flatM L).length = L.length * 2 := by
  induction L with
  | nil => rfl
  | cons r R ih =>
    have : flatM (r :: R) = [.string r.1, .string r.2] ++ flatM R := rfl
    rw [this, List.length_append, ih]
    show 2 + R.length * 2 = (R.length + 1) * 2
    omega
theorem flatM_app (D E : List Bm) : flatM (D ++ E) = flatM D ++ flatM E := by simp [flatM]
theorem flatM_get : ∀ (D : List Bm) (j c : Nat) (hj : j < D.length) (_ : c < 2), (flatM D)[j * 2 + c]? = [Value.string D[j].1, Value.string D[j].2][c]?
  | [], _, _, hj, _ => absurd hj (Nat.not_lt_zero _)
  | r :: R, 0, c, _, hc => by
    have : flatM (r :: R) = [.string r.1, .string r.2] ++ flatM R := rfl
    rw [this, List.getElem?_append_left (by show 0 * 2 + c < 2; omega)]
    simp
  | r :: R, j + 1, c, hj, hc => by
    have : flatM (r :: R) = [.string r.1, .string r.2] ++ flatM R := rfl
    rw [this, List.getElem?_append_right (by show 2 ≤ (j + 1) * 2 + c; omega), show (j + 1) * 2 + c - [Value.string r.1, Value.string r.2].length = j * 2 + c by simp; omega]
    exact flatM_get R j c (by simpa using hj) hc
theorem own_ms {w : World} {base : Nat} {e : TypeId} {v : Value} {L : List Bm} (h : w.ownsRow base e 2 v L.length (flatM L)) : MsAt w v L := by
  obtain ⟨_, ⟨hv, hn0⟩ | ⟨g, cap, cur, hv, hg, hblk, hcap, hcm, hcs, hct⟩⟩ := h
  · exact ⟨none, 0, by rw [hv, hn0], by omega, fun hL => absurd (List.length_eq_zero_iff.1 hn0) hL⟩
  · refine ⟨_, cap, hv, hcap, fun _ => ⟨g, 0, rfl, fun j hj => ?_⟩⟩
    have go : ∀ c, c < 2 → w.cell? ⟨g, 0 + j * 2 + c, none⟩ = [Value.string L[j].1, Value.string L[j].2][c]? := fun c hc => by
      have h1 := flatM_get L j c hj hc
      rw [← hct, List.getElem?_take, if_pos (by omega)] at h1
      simp only [World.cell?, hblk]
      rw [← h1]; simp
    exact ⟨by have := go 0 (by omega); simpa using this, by have := go 1 (by omega); simpa using this⟩
theorem own_ne2 {w : World} {B : Nat} {e T : TypeId} {v : Value} {n : Nat} {xs : List Value} {b : Nat} {cs : Array Value} {fr : Nat × Nat} (hown : w.ownsRow B e 2 v n xs) (hb : w.heap[b]? = some (.cells cs T fr)) (hTe : T ≠ e) : v.ownBlock ≠ some b := by
  rcases hown.2 with ⟨rfl, _⟩ | ⟨g, cap, cur, rfl, _, hg, _⟩
  · simp [Value.ownBlock]
  · intro h
    simp only [Value.ownBlock, Option.some.injEq] at h
    subst h
    rw [hg] at hb
    simp only [Option.some.injEq, Obj.cells.injEq] at hb
    exact hTe hb.2.1.symm
/-- A file that is being read, in block fb; the lines lie in block kp. -/
structure Rd (kp : Nat × Array Value) (w0 W : World) (fb : Nat) (f : Fs) (v u : Value) : Prop where
  kb : W.heap[kp.1]? = some (.cells kp.2 9 (0, 0))
  bl : Below w0.heap.size w0 W
  lo : w0.heap.size ≤ fb
  blk : W.heap[fb]? = some (.cells #[.string f.1, v, u] 24 (0, 0))
  ov : W.ownsRow w0.heap.size 26 2 v f.2.1.length (flatM f.2.1)
  ou : W.ownsRow w0.heap.size 26 2 u f.2.2.length (flatM f.2.2)
  ap : ∀ g, v.ownBlock = some g → u.ownBlock ≠ some g
theorem Rd.below {kp : Nat × Array Value} {w0 W W' : World} {fb : Nat} {f : Fs} {v u : Value} (h : Rd kp w0 W fb f v u) (hb : Below W.heap.size W W') : Rd kp w0 W' fb f v u :=
  ⟨by rw [hb.block _ (lt_of_blk h.kb)]; exact h.kb, h.bl.trans (hb.mono h.bl.size), h.lo, by rw [hb.block _ (lt_of_blk h.blk)]; exact h.blk, owns_below h.ov hb, owns_below h.ou hb, h.ap⟩
theorem Rd.c0 {kp : Nat × Array Value} {w0 W : World} {fb : Nat} {f : Fs} {v u : Value} (h : Rd kp w0 W fb f v u) : W.cell? ⟨fb, 0, none⟩ = some (.string f.1) := by rw [Lib.cell_of_heap h.blk]; rfl
theorem Rd.c1 {kp : Nat × Array Value} {w0 W : World} {fb : Nat} {f : Fs} {v u : Value} (h : Rd kp w0 W fb f v u) : W.cell? ⟨fb, 1, none⟩ = some v := by rw [Lib.cell_of_heap h.blk]; rfl
theorem Rd.c2 {kp : Nat × Array Value} {w0 W : World} {fb : Nat} {f : Fs} {v u : Value} (h : Rd kp w0 W fb f v u) : W.cell? ⟨fb, 2, none⟩ = some u := by rw [Lib.cell_of_heap h.blk]; rfl
theorem Rd.fz {kp : Nat × Array Value} {w0 W : World} {fb : Nat} {f : Fs} {v u : Value} (h : Rd kp w0 W fb f v u) (o : Nat) : W.frozen? ⟨fb, o, none⟩ = false := Lib.frozen_of_heap h.blk o
theorem Rd.nv {kp : Nat × Array Value} {w0 W : World} {fb : Nat} {f : Fs} {v u : Value} (h : Rd kp w0 W fb f v u) : v.ownBlock ≠ some fb := own_ne2 h.ov h.blk (by decide)
theorem Rd.nu {kp : Nat × Array Value} {w0 W : World} {fb : Nat} {f : Fs} {v u : Value} (h : Rd kp w0 W fb f v u) : u.ownBlock ≠ some fb := own_ne2 h.ou h.blk (by decide)
theorem Rd.nk {kp : Nat × Array Value} {w0 W : World} {fb : Nat} {f : Fs} {v u : Value} (h : Rd kp w0 W fb f v u) : kp.1 ≠ fb := fun e => by
  have h1 := h.kb
  rw [e, h.blk] at h1
  simp only [Option.some.injEq, Obj.cells.injEq] at h1
  exact absurd h1.2.1 (by decide)
theorem keep_set {W : World} {fb o b : Nat} {x : Value} {ob : Obj} (h : W.heap[b]? = some ob) (hne : b ≠ fb) : (W.setCell ⟨fb, o, none⟩ x).heap[b]? = some ob := by
  rw [Below.heap_setCell _ _ _ _ hne]; exact h
/-- A store into the file's own block. -/
theorem set_block {W : World} {fb o : Nat} {cs : Array Value} {T : TypeId} {x : Value} (h : W.heap[fb]? = some (.cells cs T (0, 0))) : (W.setCell ⟨fb, o, none⟩ x).heap[fb]? = some (.cells (cs.setIfInBounds o x) T (0, 0)) := by
  simp [World.setCell, Array.getElem?_modify, h]
theorem owns_set {W : World} {B fb o n : Nat} {e : TypeId} {v x : Value} {xs : List Value} (h : W.ownsRow B e 2 v n xs) (hne : v.ownBlock ≠ some fb) : (W.setCell ⟨fb, o, none⟩ x).ownsRow B e 2 v n xs :=
  h.kept (row := some fb) ⟨rfl, rfl, rfl, by simp [World.setCell], fun k _ hk => Below.heap_setCell _ _ _ _ (fun e => hk (by simp [e]))⟩ (Or.inr hne)
theorem Rd.path {kp : Nat × Array Value} {w0 W : World} {fb : Nat} {f : Fs} {v u : Value} (h : Rd kp w0 W fb f v u) (p : ByteArray) : Rd kp w0 (W.setCell ⟨fb, 0, none⟩ (.string p)) fb (p, f.2) v u :=
  ⟨keep_set h.kb h.nk, h.bl.setCell (p := ⟨fb, 0, none⟩) h.lo _, h.lo, by rw [set_block h.blk]; rfl, owns_set h.ov h.nv, owns_set h.ou h.nu, h.ap⟩
/-- Another row's growth leaves an owned row as it was. -/
theorem owns_far {W W3 : World} {B n : Nat} {e : TypeId} {v : Value} {xs : List Value} {row : Option Nat} (h : W.ownsRow B e 2 v n xs) (hg : W.grownBy W3 row) (hne : ∀ g, v.ownBlock = some g → row ≠ some g) : W3.ownsRow B e 2 v n xs := by
  obtain ⟨hl, h | ⟨g, cap, cur, e1, e2, e3, e4, e5, e6, e7⟩⟩ := h
  · exact ⟨hl, Or.inl h⟩
  · refine ⟨hl, Or.inr ⟨g, cap, cur, e1, e2, ?_, e4, e5, e6, e7⟩⟩
    rw [hg.block g (lt_of_blk e3) (fun h => hne g (by rw [e1]; rfl) h.symm)]; exact e3
theorem own_lt {W : World} {B n g : Nat} {e : TypeId} {v : Value} {xs : List Value} (h : W.ownsRow B e 2 v n xs) (hv : v.ownBlock = some g) : g < W.heap.size ∧ B ≤ g := by
  obtain ⟨hl, ⟨h, _⟩ | ⟨g', cap, cur, e1, e2, e3, _⟩⟩ := h
  · rw [h] at hv; cases hv
  · rw [e1] at hv
    have : g' = g := by simpa [Value.ownBlock] using hv
    subst this
    exact ⟨lt_of_blk e3, e2⟩
/-- One more requirement. -/
theorem Rd.req {kp : Nat × Array Value} {w0 W W1 W3 : World} {fb g cap : Nat} {f : Fs} {v u : Value} {m : Bm} (h : Rd kp w0 W fb f v u) (hb1 : Below W.heap.size W W1)
    (hown : W3.ownsRow w0.heap.size 26 2 (.slice (some ⟨g, 0, none⟩) (f.2.1.length + 1) cap) (f.2.1.length + 1) (flatM f.2.1 ++ [.string m.1, .string m.2])) (hg : W1.grownBy W3 v.ownBlock) (hat : v.ownBlock = some g ∨ g = W1.heap.size) :
    Rd kp w0 (W3.setCell ⟨fb, 1, none⟩ (.slice (some ⟨g, 0, none⟩) (f.2.1.length + 1) cap)) fb (f.1, f.2.1 ++ [m], f.2.2) (.slice (some ⟨g, 0, none⟩) (f.2.1.length + 1) cap) u := by
  have h1 := h.below hb1
  have hlt := lt_of_blk h1.blk
  have hbk : W3.heap[fb]? = some (.cells #[.string f.1, v, u] 24 (0, 0)) := by rw [hg.block fb hlt (fun e => h1.nv e.symm)]; exact h1.blk
  have hb3 : Below w0.heap.size w0 W3 := h1.bl.grown hg h1.bl.size (fun k hk => (h1.ov.lt k hk).1)
  have hu3 := owns_far h1.ou hg (fun k hk e => h1.ap k e hk)
  have hkb : W3.heap[kp.1]? = some (.cells kp.2 9 (0, 0)) := by rw [hg.block kp.1 (lt_of_blk h1.kb) (fun e => own_ne2 h1.ov h1.kb (by decide) e.symm)]; exact h1.kb
  have hne : (Value.slice (some ⟨g, 0, none⟩) (f.2.1.length + 1) cap).ownBlock ≠ some fb := own_ne2 hown hbk (by decide)
  refine ⟨keep_set hkb h.nk, hb3.setCell (p := ⟨fb, 1, none⟩) h.lo _, h.lo, by rw [set_block hbk]; rfl, ?_, owns_set hu3 (own_ne2 hu3 hbk (by decide)), ?_⟩
  · have := owns_set (o := 1) (x := .slice (some ⟨g, 0, none⟩) (f.2.1.length + 1) cap) hown hne
    rw [show (f.1, f.2.1 ++ [m], f.2.2).2.1 = f.2.1 ++ [m] from rfl, List.length_append, flatM_app]
    exact this
  · intro k hk hu
    have hk : g = k := by simpa [Value.ownBlock] using hk
    rcases hat with hat | hat
    · exact h1.ap g hat (by rw [hk]; exact hu)
    · have := (own_lt h1.ou hu).1
      omega
/-- One more exclusion. -/
theorem Rd.exc {kp : Nat × Array Value} {w0 W W1 W3 : World} {fb g cap : Nat} {f : Fs} {v u : Value} {m : Bm} (h : Rd kp w0 W fb f v u) (hb1 : Below W.heap.size W W1)
    (hown : W3.ownsRow w0.heap.size 26 2 (.slice (some ⟨g, 0, none⟩) (f.2.2.length + 1) cap) (f.2.2.length + 1) (flatM f.2.2 ++ [.string m.1, .string m.2])) (hg : W1.grownBy W3 u.ownBlock) (hat : u.ownBlock = some g ∨ g = W1.heap.size) :
    Rd kp w0 (W3.setCell ⟨fb, 2, none⟩ (.slice (some ⟨g, 0, none⟩) (f.2.2.length + 1) cap)) fb (f.1, f.2.1, f.2.2 ++ [m]) v (.slice (some ⟨g, 0, none⟩) (f.2.2.length + 1) cap) := by
  have h1 := h.below hb1
  have hlt := lt_of_blk h1.blk
  have hbk : W3.heap[fb]? = some (.cells #[.string f.1, v, u] 24 (0, 0)) := by rw [hg.block fb hlt (fun e => h1.nu e.symm)]; exact h1.blk
  have hb3 : Below w0.heap.size w0 W3 := h1.bl.grown hg h1.bl.size (fun k hk => (h1.ou.lt k hk).1)
  have hv3 := owns_far h1.ov hg (fun k hk e => h1.ap k hk e)
  have hkb : W3.heap[kp.1]? = some (.cells kp.2 9 (0, 0)) := by rw [hg.block kp.1 (lt_of_blk h1.kb) (fun e => own_ne2 h1.ou h1.kb (by decide) e.symm)]; exact h1.kb
  have hne : (Value.slice (some ⟨g, 0, none⟩) (f.2.2.length + 1) cap).ownBlock ≠ some fb := own_ne2 hown hbk (by decide)
  refine ⟨keep_set hkb h.nk, hb3.setCell (p := ⟨fb, 2, none⟩) h.lo _, h.lo, by rw [set_block hbk]; rfl, owns_set hv3 (own_ne2 hv3 hbk (by decide)), ?_, ?_⟩
  · have := owns_set (o := 2) (x := .slice (some ⟨g, 0, none⟩) (f.2.2.length + 1) cap) hown hne
    rw [show (f.1, f.2.1, f.2.2 ++ [m]).2.2 = f.2.2 ++ [m] from rfl, List.length_append, flatM_app]
    exact this
  · intro k hk hu
    have hu : g = k := by simpa [Value.ownBlock] using hu
    rcases hat with hat | hat
    · exact h1.ap k hk (by rw [← hu]; exact hat)
    · have := (own_lt h1.ov hk).1
      omega
end Ve
end Go.Proofs.YtjphlclhkaoipaaGreatDoor

/-
  Contracts of library functions, laid at this program out of the compiled library, each by one application.
-/
namespace Go.Proofs
open Go.Shelf
def Tryz.lays169_ren : Go.Shelf.Ren := ⟨fun | 169 => 34 | n => n, fun | 70 => 62 | 9 => 9 | 0 => 0 | 72 => 65 | 37 => 63 | 127 => 100 | 3 => 3 | 5 => 5 | n => n, fun | n => n⟩
theorem Tryz.lays169 : Go.Proofs.Lays.n169 Tryz.prog Tryz.lays169_ren := {
  mixed := by kernel_rfl
  f169 := Tryz.func34.trans (congrArg some (by kernel_rfl))
  t0 := Tryz.underlying0
  a0 := Tryz.isAgg0
  z0 := Tryz.sizeOf0
  v0 := Tryz.zeroValue0
  t3 := Tryz.underlying3
  a3 := Tryz.isAgg3
  z3 := Tryz.sizeOf3
  v3 := Tryz.zeroValue3
  t9 := Tryz.underlying9
  a9 := Tryz.isAgg9
  z9 := Tryz.sizeOf9
  v9 := Tryz.zeroValue9
  t37 := Tryz.underlying63
  a37 := Tryz.isAgg63
  z37 := Tryz.sizeOf63
  v37 := Tryz.zeroValue63
  t70 := Tryz.underlying62
  a70 := Tryz.isAgg62
  z70 := Tryz.sizeOf62
  v70 := Tryz.zeroValue62
  t72 := Tryz.underlying65
  a72 := Tryz.isAgg65
  z72 := Tryz.sizeOf65
  v72 := Tryz.zeroValue65
  t127 := Tryz.underlying100
  a127 := Tryz.isAgg100
  z127 := Tryz.sizeOf100
  v127 := Tryz.zeroValue100 }
theorem Tryz.Builder_Extra_169 : Builder.Extra Tryz.prog Tryz.lays169_ren := {
  sizeBuilder := by kernel_rfl
  liesBuilder := by kernel_rfl
  t5 := Tryz.underlying5
  a5 := Tryz.isAgg5
  z5 := Tryz.sizeOf5
  v5 := Tryz.zeroValue5
  infoByte := by kernel_rfl
  cellsByte := by kernel_rfl
  sizeByte := by kernel_rfl
  neB5 := by decide }
open Go.RowKit in
theorem Tryz.Builder_String_any (B b : Nat) (l : List UInt8) (w : World) (h : Lib.IsBuilder 65 5 B b (Lib.byteCells l) w) (hBw : B ≤ w.heap.size) :
    Calls Tryz.prog 34 #[.pointer (some ⟨b, 0, none⟩)] w fun e w' => e = .returned (.string ⟨l.toArray⟩) ∧ Below B w w' := Any.Builder_String_any Tryz.lays169 Tryz.Builder_Extra_169 B b l w h hBw
def Tryz.lays104_ren : Go.Shelf.Ren := ⟨fun | 104 => 94 | 211 => 119 | 207 => 147 | n => n, fun | 9 => 9 | 4 => 4 | 24 => 137 | 3 => 3 | n => n, fun | n => n⟩
theorem Tryz.lays104 : Go.Proofs.Lays.n104 Tryz.prog Tryz.lays104_ren := {
  mixed := by kernel_rfl
  f104 := Tryz.func94.trans (congrArg some (by kernel_rfl))
  f207 := Tryz.func147.trans (congrArg some (by kernel_rfl))
  f211 := Tryz.func119.trans (congrArg some (by kernel_rfl))
  t3 := Tryz.underlying3
  a3 := Tryz.isAgg3
  z3 := Tryz.sizeOf3
  v3 := Tryz.zeroValue3
  t4 := Tryz.underlying4
  a4 := Tryz.isAgg4
  z4 := Tryz.sizeOf4
  v4 := Tryz.zeroValue4
  t9 := Tryz.underlying9
  a9 := Tryz.isAgg9
  z9 := Tryz.sizeOf9
  v9 := Tryz.zeroValue9
  t24 := Tryz.underlying137
  a24 := Tryz.isAgg137
  z24 := Tryz.sizeOf137
  v24 := Tryz.zeroValue137 }
open Go.RowKit in
theorem Tryz.strings_CutSuffix (s p : ByteArray) (w : World) (hs : s.size ≤ 9223372036854775807) :
    Calls Tryz.prog 94 #[.string s, .string p] w fun e w' => e = .returned (.tuple #[.string ⟨(Lib.trimSuffix s.data.toList p.data.toList).toArray⟩, .bool (Lib.hasSuffix s.data.toList p.data.toList)]) ∧ w' = w := Any.strings_CutSuffix Tryz.lays104 s p w hs
def Tryz.lays221_ren : Go.Shelf.Ren := ⟨fun | 221 => 93 | 268 => 116 | 138 => 117 | 143 => 118 | 195 => 143 | 197 => 144 | 218 => 145 | 219 => 146 | 260 => 157 | 217 => 158 | 225 => 159 | 224 => 160 | 267 => 161 | 266 => 166 | 314 => 167 | n => n, fun | 9 => 9 | 3 => 3 | 31 => 71 | 4 => 4 | 0 => 0 | 105 => 182 | 21 => 21 | 5 => 5 | 46 => 139 | 119 => 192 | 139 => 195 | 138 => 194 | 146 => 197 | 51 => 196 | n => n, fun | 1 => 11 | 3 => 12 | 4 => 13 | n => n⟩
theorem Tryz.lays221 : Go.Proofs.Lays.n221 Tryz.prog Tryz.lays221_ren := {
  mixed := by kernel_rfl
  f138 := Tryz.func117.trans (congrArg some (by kernel_rfl))
  f143 := Tryz.func118.trans (congrArg some (by kernel_rfl))
  f195 := Tryz.func143.trans (congrArg some (by kernel_rfl))
  f197 := Tryz.func144.trans (congrArg some (by kernel_rfl))
  f217 := Tryz.func158.trans (congrArg some (by kernel_rfl))
  f218 := Tryz.func145.trans (congrArg some (by kernel_rfl))
  f219 := Tryz.func146.trans (congrArg some (by kernel_rfl))
  f221 := Tryz.func93.trans (congrArg some (by kernel_rfl))
  f224 := Tryz.func160.trans (congrArg some (by kernel_rfl))
  f225 := Tryz.func159.trans (congrArg some (by kernel_rfl))
  f260 := Tryz.func157.trans (congrArg some (by kernel_rfl))
  f266 := Tryz.func166.trans (congrArg some (by kernel_rfl))
  f267 := Tryz.func161.trans (congrArg some (by kernel_rfl))
  f268 := Tryz.func116.trans (congrArg some (by kernel_rfl))
  f314 := Tryz.func167.trans (congrArg some (by kernel_rfl))
  t0 := Tryz.underlying0
  a0 := Tryz.isAgg0
  z0 := Tryz.sizeOf0
  v0 := Tryz.zeroValue0
  t3 := Tryz.underlying3
  a3 := Tryz.isAgg3
  z3 := Tryz.sizeOf3
  v3 := Tryz.zeroValue3
  t4 := Tryz.underlying4
  a4 := Tryz.isAgg4
  z4 := Tryz.sizeOf4
  v4 := Tryz.zeroValue4
  t5 := Tryz.underlying5
  a5 := Tryz.isAgg5
  z5 := Tryz.sizeOf5
  v5 := Tryz.zeroValue5
  t9 := Tryz.underlying9
  a9 := Tryz.isAgg9
  z9 := Tryz.sizeOf9
  v9 := Tryz.zeroValue9
  t21 := Tryz.underlying21
  a21 := Tryz.isAgg21
  z21 := Tryz.sizeOf21
  v21 := Tryz.zeroValue21
  t31 := Tryz.underlying71
  a31 := Tryz.isAgg71
  z31 := Tryz.sizeOf71
  v31 := Tryz.zeroValue71
  t46 := Tryz.underlying139
  a46 := Tryz.isAgg139
  z46 := Tryz.sizeOf139
  v46 := Tryz.zeroValue139
  t51 := Tryz.underlying196
  a51 := Tryz.isAgg196
  z51 := Tryz.sizeOf196
  v51 := Tryz.zeroValue196
  t105 := Tryz.underlying182
  a105 := Tryz.isAgg182
  z105 := Tryz.sizeOf182
  v105 := Tryz.zeroValue182
  t119 := Tryz.underlying192
  a119 := Tryz.isAgg192
  z119 := Tryz.sizeOf192
  t138 := Tryz.underlying194
  a138 := Tryz.isAgg194
  z138 := Tryz.sizeOf194
  v138 := Tryz.zeroValue194
  t139 := Tryz.underlying195
  a139 := Tryz.isAgg195
  z139 := Tryz.sizeOf195
  v139 := Tryz.zeroValue195
  t146 := Tryz.underlying197
  a146 := Tryz.isAgg197
  z146 := Tryz.sizeOf197
  v146 := Tryz.zeroValue197
  g1 := by kernel_rfl
  g3 := by kernel_rfl
  g4 := by kernel_rfl }
open Go.RowKit Go.Lib in
theorem Tryz.strings_genSplit (s sep : ByteArray) (sv : Nat) (n : Int) (N : Nat) (m : Int) (w : World) (hs : s.size < 4294967281) (hm : w.cell? ⟨11, 0, none⟩ = some (.int .i64 m)) (h1 : 1 ≤ sep.size) (hsv : sv ≤ sep.size) (hn0 : n ≠ 0) (hn63 : n ≤ 9223372036854775807) (hN : (N : Int) = min (if n < 0 then (Lib.countB s sep : Int) + 1 else n) ((s.size : Int) + 1)) :
    Calls Tryz.prog 93 #[.string s, .string sep, .int .i64 sv, .int .i64 n] w fun e w' =>
      e = .returned (.slice (some ⟨w.heap.size, 0, none⟩) (Lib.splitB sep sv (N - 1) s).length N) ∧ w' = w.alloc (.cells (Lib.cellsOf (Lib.splitB sep sv (N - 1) s) N) 9) := Any.strings_genSplit Tryz.lays221 (by kernel_rfl) s sep sv n N m w hs hm h1 hsv hn0 hn63 hN
end Go.Proofs

/-
  What readLine of package file does with a line: the file in its own block has one thing more, or the line is wrong.
-/
namespace Go.Proofs.YtjphlclhkaoipaaGreatDoor
open Go.RowKit
namespace Ve

theorem infoMod : (Tryz.prog.info? 26).map (fun i => (i.zero, i.size, i.bytes)) = some (some (.agg #[.string ⟨#[]⟩, .string ⟨#[]⟩]), 2, 32) := by kernel_rfl
theorem suffix_yes10 (l : List UInt8) : Lib.hasSuffix (l ++ [10]) [10] = true := by simp [Lib.hasSuffix]
theorem trim_yes10 (l : List UInt8) : Lib.trimSuffix (l ++ [10]) [10] = l := by unfold Lib.trimSuffix; rw [suffix_yes10]; simp
theorem suffix_no10 {l : List UInt8} (h : (10 : UInt8) ∉ l) : Lib.hasSuffix l [10] = false := by
  cases e : Lib.hasSuffix l [10]
  · rfl
  · unfold Lib.hasSuffix at e
    have := List.isSuffixOf_iff_suffix.1 e
    exact absurd (this.subset (List.mem_singleton.2 rfl)) h
/-- The line's ending, cut off. -/
theorem cutS (s : ByteArray) (l : List UInt8) (w : World) (hs : s.size < 4294967281) (h : s.data.toList = l ++ [10]) :
    Calls Tryz.prog 94 #[.string s, .string ⟨#[10]⟩] w fun e w' => e = .returned (.tuple #[.string (bt l), .bool true]) ∧ w' = w :=
  (Tryz.strings_CutSuffix s ⟨#[10]⟩ w (by omega)).mono fun e w' ⟨h1, h2⟩ => ⟨by
    rw [h1, h, show (⟨#[10]⟩ : ByteArray).data.toList = [10] from rfl, suffix_yes10, trim_yes10]; rfl, h2⟩
theorem cutN (s : ByteArray) (w : World) (hs : s.size < 4294967281) (h : (10 : UInt8) ∉ s.data.toList) :
    Calls Tryz.prog 94 #[.string s, .string ⟨#[10]⟩] w fun e w' => ∃ T, e = .returned (.tuple #[.string T, .bool false]) ∧ w' = w :=
  (Tryz.strings_CutSuffix s ⟨#[10]⟩ w (by omega)).mono fun e w' ⟨h1, h2⟩ => ⟨⟨(Lib.trimSuffix s.data.toList [10]).toArray⟩, by
    rw [h1, show (⟨#[10]⟩ : ByteArray).data.toList = [10] from rfl, suffix_no10 h], h2⟩
/-- Pieces, by what they are. -/
theorem bl_bt (X : List ByteArray) : X = (bl X).map bt := by
  induction X with
  | nil => rfl
  | cons x r ih =>
    show x :: r = bt x.data.toList :: (bl r).map bt
    rw [bt_of, ← ih]
theorem three_X {X : List ByteArray} {a : List UInt8} {b c : ByteArray} (h : bl X = [a, b.data.toList, c.data.toList]) : X = [bt a, b, c] := by
  rw [bl_bt X, h]; simp only [List.map_cons, List.map_nil, bt_of]

set_option maxHeartbeats 1000000 in
set_option maxRecDepth 100000 in
theorem line_open (s : ByteArray) (i : Int) (A : Nat → Addr) (m : Int) (w : World) (fb : Nat) (hs : s.size < 4294967281) (S : Te w A m) (h : (10 : UInt8) ∉ s.data.toList) :
    Calls Tryz.prog 62 #[.pointer (some ⟨fb, 0, none⟩), .int .i64 i, .string s] w fun e w' => e = .returned (errA A 1) ∧ w' = w := by
  have HC := hid (cutN s w hs h)
  have g0 := S.sen.g0
  clear S h
  go_enter Tryz.func62, Tryz.ntmps62
  go_wp2_with fail
  refine HC.out.mono ?_
  rintro e w1 ⟨T, rfl, rfl⟩
  go_wp2_with fail
  go_ret
  exact ⟨rfl, rfl⟩

set_option maxHeartbeats 2000000 in
set_option maxRecDepth 100000 in
/-- A line that requires. -/
theorem line_req (s : ByteArray) (l : List UInt8) (b c : ByteArray) (i : Nat) (f : Fs) (v u : Value) (A : Nat → Addr) (m : Int) (kp : Nat × Array Value) (w0 w : World) (fb : Nat) (hs : s.size < 4294967281) (S : Te w A m) (R : Rd kp w0 w fb f v u) (h : s.data.toList = l ++ [10])
    (hw : cutAt 32 l = [wRequire, b.data.toList, c.data.toList]) (hi : 0 < i) (hX : f.2.2 = []) (hR : f.2.1.length ≤ 1000000) :
    Calls Tryz.prog 62 #[.pointer (some ⟨fb, 0, none⟩), .int .i64 i, .string s] w fun e w' => e = .returned .nilIface ∧ ∃ v' u', Rd kp w0 w' fb (f.1, f.2.1 ++ [(b, c)], f.2.2) v' u' := by
  obtain ⟨i0, hi0, hz0, hz1, hz2⟩ := info_parts infoMod
  have HC := hid (cutS s l w hs h)
  have HSP := hid (split_any 32 (bt l) m w (by
    have := congrArg List.length h
    simp at this
    rw [← len_eq, bt_list]; omega) S.ml)
  rw [bt_list, hw] at HSP
  have HRD := hid R
  have hi1 : (0 : Int) < (i : Int) := by omega
  have hi2 : ((i : Int) == 0) = false := by simp; omega
  obtain ⟨ua, uc, hu⟩ : ∃ a c, u = .slice a 0 c := by
    obtain ⟨a, c, e, _⟩ := own_ms R.ou
    rw [hX] at e
    exact ⟨a, c, e⟩
  subst hu
  clear S R h hw
  go_enter Tryz.func62, Tryz.ntmps62
  go_wp2_with fail
  refine HC.out.mono ?_
  rintro e w ⟨rfl, rfl⟩
  go_wp2_with fail
  refine HSP.out.mono ?_
  rintro e w1 ⟨X, rfl, hX', hc, hb, hz⟩
  obtain rfl := three_X hX'
  have d0 : w1.cell? ⟨w.heap.size, 0, none⟩ = some (.string ⟨#[114, 101, 113, 117, 105, 114, 101]⟩) := hc 0 (by simp)
  have d1 : w1.cell? ⟨w.heap.size, 1, none⟩ = some (.string b) := hc 1 (by simp)
  have d2 : w1.cell? ⟨w.heap.size, 2, none⟩ = some (.string c) := hc 2 (by simp)
  have HR1 := hid (HRD.out.below hb)
  clear hc hX' hb
  have c1 := HR1.out.c1
  have c2 := HR1.out.c2
  have cf := HR1.out.fz 1
  have lf := lt_of_blk HR1.out.blk
  have nvf := HR1.out.nv
  have hne : ¬ fb = w.heap.size := by have := lt_of_blk HRD.out.blk; omega
  have hne2 : ¬ w.heap.size = fb := by omega
  have nvw : v.ownBlock ≠ some w.heap.size := fun e => by have := (own_lt HRD.out.ov e).1; omega
  have HBA := hid ((Below.refl w1.heap.size w1).alloc (Nat.le_refl _) (.cells #[.string b, .string c] 26))
  have HBD := hid (HBA.out.trans ((below_drawn (w1.alloc (.cells #[.string b, .string c] 26)) 1).mono HBA.out.size))
  have HR2 := hid (HR1.out.below HBD.out)
  have hbase := HR1.out.bl.size
  have e1 := World.new_ne w1 _ c1
  have HX1 := hid (HR2.out.c1)
  have HXF := hid (HR2.out.fz 1)
  go_wp2_with fail
  go_region_law
    ((refine step_append_lies _ (by rfl) _ _ _ (by rfl) w0.heap.size 26 i0 _ 2 32 Tryz.underlying22 hi0 hz0 hz1 hz2 rfl (by omega) v f.2.1.length (flatM f.2.1) (by rfl) HR2.out.ov
        ⟨w1.heap.size, 0, none⟩ 1 1 [.string b, .string c] (by rfl) (by rfl) (World.news_of_block (cs := #[.string b, .string c]) (t := 26) (fr := (0, 0)) (heap_alloc_new w1 _)) (by simp [Value.oneCell'])
        (by omega) (by unfold maxLen; omega) (by omega) (by simp; omega) (w1.heap.size + 1) (by simp) ?_; intro g cap w3 hown hgrow hat hlt; have c3 := (hgrow.cell_far ⟨fb, 1, none⟩ (by simp; omega) (Ne.symm nvf)).trans HX1.out; have f3 := (hgrow.frozen_far ⟨fb, 1, none⟩ (by simp; omega) (Ne.symm nvf)).trans HXF.out))
  all_goals
    have HR3 := hid (HR1.out.req (m := (b, c)) HBD.out hown hgrow (hat.imp id (fun h => h.trans (by simp))))
    clear hown hgrow hat hlt
    go_wp2_with fail
    go_ret
    exact ⟨rfl, _, _, HR3.out⟩
set_option maxHeartbeats 2000000 in
set_option maxRecDepth 100000 in
/-- A line that excludes. -/
theorem line_exc (s : ByteArray) (l : List UInt8) (b c : ByteArray) (i : Nat) (f : Fs) (v u : Value) (A : Nat → Addr) (m : Int) (kp : Nat × Array Value) (w0 w : World) (fb : Nat) (hs : s.size < 4294967281) (S : Te w A m) (R : Rd kp w0 w fb f v u) (h : s.data.toList = l ++ [10])
    (hw : cutAt 32 l = [wExclude, b.data.toList, c.data.toList]) (hi : 0 < i) (hR : f.2.2.length ≤ 1000000) :
    Calls Tryz.prog 62 #[.pointer (some ⟨fb, 0, none⟩), .int .i64 i, .string s] w fun e w' => e = .returned .nilIface ∧ ∃ v' u', Rd kp w0 w' fb (f.1, f.2.1, f.2.2 ++ [(b, c)]) v' u' := by
  obtain ⟨i0, hi0, hz0, hz1, hz2⟩ := info_parts infoMod
  have HC := hid (cutS s l w hs h)
  have HSP := hid (split_any 32 (bt l) m w (by
    have := congrArg List.length h
    simp at this
    rw [← len_eq, bt_list]; omega) S.ml)
  rw [bt_list, hw] at HSP
  have HRD := hid R
  have hi1 : (0 : Int) < (i : Int) := by omega
  have hi2 : ((i : Int) == 0) = false := by simp; omega
  clear S R h hw
  go_enter Tryz.func62, Tryz.ntmps62
  go_wp2_with fail
  refine HC.out.mono ?_
  rintro e w ⟨rfl, rfl⟩
  go_wp2_with fail
  refine HSP.out.mono ?_
  rintro e w1 ⟨X, rfl, hX', hc, hb, hz⟩
  obtain rfl := three_X hX'
  have d0 : w1.cell? ⟨w.heap.size, 0, none⟩ = some (.string ⟨#[101, 120, 99, 108, 117, 100, 101]⟩) := hc 0 (by simp)
  have d1 : w1.cell? ⟨w.heap.size, 1, none⟩ = some (.string b) := hc 1 (by simp)
  have d2 : w1.cell? ⟨w.heap.size, 2, none⟩ = some (.string c) := hc 2 (by simp)
  have HR1 := hid (HRD.out.below hb)
  clear hc hX' hb
  have c2 := HR1.out.c2
  have cf := HR1.out.fz 2
  have lf := lt_of_blk HR1.out.blk
  have nvf := HR1.out.nu
  have hne : ¬ fb = w.heap.size := by have := lt_of_blk HRD.out.blk; omega
  have hne2 : ¬ w.heap.size = fb := by omega
  have nvw : u.ownBlock ≠ some w.heap.size := fun e => by have := (own_lt HRD.out.ou e).1; omega
  have HBA := hid ((Below.refl w1.heap.size w1).alloc (Nat.le_refl _) (.cells #[.string b, .string c] 26))
  have HBD := hid (HBA.out.trans ((below_drawn (w1.alloc (.cells #[.string b, .string c] 26)) 1).mono HBA.out.size))
  have HR2 := hid (HR1.out.below HBD.out)
  have hbase := HR1.out.bl.size
  have e1 := World.new_ne w1 _ c2
  have HX1 := hid (HR2.out.c2)
  have HXF := hid (HR2.out.fz 2)
  go_wp2_with fail
  go_region_law
    ((refine step_append_lies _ (by rfl) _ _ _ (by rfl) w0.heap.size 26 i0 _ 2 32 Tryz.underlying22 hi0 hz0 hz1 hz2 rfl (by omega) u f.2.2.length (flatM f.2.2) (by rfl) HR2.out.ou
        ⟨w1.heap.size, 0, none⟩ 1 1 [.string b, .string c] (by rfl) (by rfl) (World.news_of_block (cs := #[.string b, .string c]) (t := 26) (fr := (0, 0)) (heap_alloc_new w1 _)) (by simp [Value.oneCell'])
        (by omega) (by unfold maxLen; omega) (by omega) (by simp; omega) (w1.heap.size + 1) (by simp) ?_; intro g cap w3 hown hgrow hat hlt; have c3 := (hgrow.cell_far ⟨fb, 2, none⟩ (by simp; omega) (Ne.symm nvf)).trans HX1.out; have f3 := (hgrow.frozen_far ⟨fb, 2, none⟩ (by simp; omega) (Ne.symm nvf)).trans HXF.out))
  all_goals
    have HR3 := hid (HR1.out.exc (m := (b, c)) HBD.out hown hgrow (hat.imp id (fun h => h.trans (by simp))))
    clear hown hgrow hat hlt
    go_wp2_with fail
    go_ret
    exact ⟨rfl, _, _, HR3.out⟩
end Ve
end Go.Proofs.YtjphlclhkaoipaaGreatDoor

/-
  What readLine of package file does with a first line, and with a line that is wrong; all lines together.
-/
namespace Go.Proofs.YtjphlclhkaoipaaGreatDoor
open Go.RowKit
namespace Ve

theorem two_X {X : List ByteArray} {a : List UInt8} {b : ByteArray} (h : bl X = [a, b.data.toList]) : X = [bt a, b] := by
  rw [bl_bt X, h]; simp only [List.map_cons, List.map_nil, bt_of]
theorem twoX {X : List ByteArray} {a b : List UInt8} (h : bl X = [a, b]) : X = [bt a, bt b] := by rw [bl_bt X, h]; rfl
theorem threeX {X : List ByteArray} {a b c : List UInt8} (h : bl X = [a, b, c]) : X = [bt a, bt b, bt c] := by rw [bl_bt X, h]; rfl
theorem bt_ne {a b : List UInt8} (h : ¬ a = b) : ((bt a).toList == (bt b).toList) = false := by
  refine str_ne (fun e => h ?_)
  rw [← bt_list a, e, bt_list]
theorem bt_ne' {a b : List UInt8} (h : ¬ a = b) : ((bt a).toList == b) = false := by
  have := bt_ne h
  rw [show (bt b).toList = b by rw [ByteArray.toList_eq, bt_list]] at this
  exact this
set_option maxHeartbeats 2000000 in
set_option maxRecDepth 100000 in
/-- The first line. -/
theorem line_mod (s : ByteArray) (l : List UInt8) (b : ByteArray) (i : Nat) (f : Fs) (v u : Value) (A : Nat → Addr) (m : Int) (kp : Nat × Array Value) (w0 w : World) (fb : Nat) (hs : s.size < 4294967281) (S : Te w A m) (R : Rd kp w0 w fb f v u) (h : s.data.toList = l ++ [10]) (hw : cutAt 32 l = [wModule, b.data.toList]) (hi : i = 0) :
    Calls Tryz.prog 62 #[.pointer (some ⟨fb, 0, none⟩), .int .i64 i, .string s] w fun e w' => e = .returned .nilIface ∧ Rd kp w0 w' fb (b, f.2) v u := by
  have HC := hid (cutS s l w hs h)
  have HSP := hid (split_any 32 (bt l) m w (by
    have := congrArg List.length h
    simp at this
    rw [← len_eq, bt_list]; omega) S.ml)
  rw [bt_list] at HSP
  have HRD := hid R
  have HS := hid S
  have HW := hid hw
  subst hi
  clear S R h hw
  go_enter Tryz.func62, Tryz.ntmps62
  go_wp2_with fail
  refine HC.out.mono ?_
  rintro e w ⟨rfl, rfl⟩
  go_wp2_with fail
  refine HSP.out.mono ?_
  rintro e w1 ⟨X, rfl, hX', hc, hb, hz⟩
  rw [HW.out] at hX'
  obtain rfl := two_X hX'
  have d0 : w1.cell? ⟨w.heap.size, 0, none⟩ = some (.string ⟨#[109, 111, 100, 117, 108, 101]⟩) := hc 0 (by simp)
  have d1 : w1.cell? ⟨w.heap.size, 1, none⟩ = some (.string b) := hc 1 (by simp)
  have HR1 := hid (HRD.out.below hb)
  clear hc hb hX'
  have c0 := HR1.out.c0
  have cf := HR1.out.fz 0
  have HR2 := hid (HR1.out.path b)
  go_wp2_with fail
  go_ret
  exact ⟨rfl, HR2.out⟩
set_option maxHeartbeats 2000000 in
set_option maxRecDepth 100000 in
/-- A first line of another number of words. -/
theorem line_e1 (s : ByteArray) (l : List UInt8) (i : Nat) (f : Fs) (v u : Value) (A : Nat → Addr) (m : Int) (kp : Nat × Array Value) (w0 w : World) (fb : Nat) (hs : s.size < 4294967281) (S : Te w A m) (R : Rd kp w0 w fb f v u) (h : s.data.toList = l ++ [10]) (hw : (cutAt 32 l).length ≠ 2) (hi : i = 0) :
    Calls Tryz.prog 62 #[.pointer (some ⟨fb, 0, none⟩), .int .i64 i, .string s] w fun e w' => e = .returned (errA A 1) ∧ Rd kp w0 w' fb f v u := by
  have HC := hid (cutS s l w hs h)
  have HSP := hid (split_any 32 (bt l) m w (by
    have := congrArg List.length h
    simp at this
    rw [← len_eq, bt_list]; omega) S.ml)
  rw [bt_list] at HSP
  have HRD := hid R
  have HS := hid S
  have HW := hid hw
  subst hi
  clear S R h hw
  go_enter Tryz.func62, Tryz.ntmps62
  go_wp2_with fail
  refine HC.out.mono ?_
  rintro e w ⟨rfl, rfl⟩
  go_wp2_with fail
  refine HSP.out.mono ?_
  rintro e w1 ⟨X, rfl, hX', hc, hb, hz⟩
  have hn : ((X.length : Int) == 2) = false := by
    have : X.length = (cutAt 32 l).length := by rw [← hX', bl_len]
    have := HW.out
    simp; omega
  have HR1 := hid (HRD.out.below hb)
  have g0 := (HS.out.below hb).sen.g0
  clear hc hb hX'
  go_wp2_with fail
  go_ret
  exact ⟨rfl, HR1.out⟩
set_option maxHeartbeats 2000000 in
set_option maxRecDepth 100000 in
/-- A first line with another first word. -/
theorem line_e2 (s : ByteArray) (l : List UInt8) (a b : List UInt8) (i : Nat) (f : Fs) (v u : Value) (A : Nat → Addr) (m : Int) (kp : Nat × Array Value) (w0 w : World) (fb : Nat) (hs : s.size < 4294967281) (S : Te w A m) (R : Rd kp w0 w fb f v u) (h : s.data.toList = l ++ [10]) (hw : cutAt 32 l = [a, b]) (ha : ¬ a = wModule) (hi : i = 0) :
    Calls Tryz.prog 62 #[.pointer (some ⟨fb, 0, none⟩), .int .i64 i, .string s] w fun e w' => e = .returned (errA A 1) ∧ Rd kp w0 w' fb f v u := by
  have HC := hid (cutS s l w hs h)
  have HSP := hid (split_any 32 (bt l) m w (by
    have := congrArg List.length h
    simp at this
    rw [← len_eq, bt_list]; omega) S.ml)
  rw [bt_list] at HSP
  have HRD := hid R
  have HS := hid S
  have HW := hid hw
  subst hi
  have hq := bt_ne ha
  have hq' := bt_ne' ha
  unfold wModule at hq hq'
  clear ha
  clear S R h hw
  go_enter Tryz.func62, Tryz.ntmps62
  go_wp2_with fail
  refine HC.out.mono ?_
  rintro e w ⟨rfl, rfl⟩
  go_wp2_with fail
  refine HSP.out.mono ?_
  rintro e w1 ⟨X, rfl, hX', hc, hb, hz⟩
  rw [HW.out] at hX'
  obtain rfl := twoX hX'
  have d0 : w1.cell? ⟨w.heap.size, 0, none⟩ = some (.string (bt a)) := hc 0 (by simp)
  have HR1 := hid (HRD.out.below hb)
  have g0 := (HS.out.below hb).sen.g0
  clear hc hb hX'
  go_wp2_with fail
  go_ret
  exact ⟨rfl, HR1.out⟩
set_option maxHeartbeats 2000000 in
set_option maxRecDepth 100000 in
/-- Another line of another number of words. -/
theorem line_e3 (s : ByteArray) (l : List UInt8) (i : Nat) (f : Fs) (v u : Value) (A : Nat → Addr) (m : Int) (kp : Nat × Array Value) (w0 w : World) (fb : Nat) (hs : s.size < 4294967281) (S : Te w A m) (R : Rd kp w0 w fb f v u) (h : s.data.toList = l ++ [10]) (hw : (cutAt 32 l).length ≠ 3) (hi : 0 < i) :
    Calls Tryz.prog 62 #[.pointer (some ⟨fb, 0, none⟩), .int .i64 i, .string s] w fun e w' => e = .returned (errA A 1) ∧ Rd kp w0 w' fb f v u := by
  have HC := hid (cutS s l w hs h)
  have HSP := hid (split_any 32 (bt l) m w (by
    have := congrArg List.length h
    simp at this
    rw [← len_eq, bt_list]; omega) S.ml)
  rw [bt_list] at HSP
  have HRD := hid R
  have HS := hid S
  have HW := hid hw
  have hi1 : (0 : Int) < (i : Int) := by omega
  have hi2 : ((i : Int) == 0) = false := by simp; omega
  clear S R h hw
  go_enter Tryz.func62, Tryz.ntmps62
  go_wp2_with fail
  refine HC.out.mono ?_
  rintro e w ⟨rfl, rfl⟩
  go_wp2_with fail
  refine HSP.out.mono ?_
  rintro e w1 ⟨X, rfl, hX', hc, hb, hz⟩
  have hn : ((X.length : Int) == 3) = false := by
    have : X.length = (cutAt 32 l).length := by rw [← hX', bl_len]
    have := HW.out
    simp; omega
  have HR1 := hid (HRD.out.below hb)
  have g0 := (HS.out.below hb).sen.g0
  clear hc hb hX'
  go_wp2_with fail
  go_ret
  exact ⟨rfl, HR1.out⟩
set_option maxHeartbeats 2000000 in
set_option maxRecDepth 100000 in
/-- A line that requires behind one that excludes. -/
theorem line_e4 (s : ByteArray) (l : List UInt8) (b c : List UInt8) (i : Nat) (f : Fs) (v u : Value) (A : Nat → Addr) (m : Int) (kp : Nat × Array Value) (w0 w : World) (fb : Nat) (hs : s.size < 4294967281) (S : Te w A m) (R : Rd kp w0 w fb f v u) (h : s.data.toList = l ++ [10]) (hw : cutAt 32 l = [wRequire, b, c]) (hi : 0 < i) (hx : f.2.2 ≠ []) :
    Calls Tryz.prog 62 #[.pointer (some ⟨fb, 0, none⟩), .int .i64 i, .string s] w fun e w' => e = .returned (errA A 1) ∧ Rd kp w0 w' fb f v u := by
  have HC := hid (cutS s l w hs h)
  have HSP := hid (split_any 32 (bt l) m w (by
    have := congrArg List.length h
    simp at this
    rw [← len_eq, bt_list]; omega) S.ml)
  rw [bt_list] at HSP
  have HRD := hid R
  have HS := hid S
  have HW := hid hw
  have hi1 : (0 : Int) < (i : Int) := by omega
  have hi2 : ((i : Int) == 0) = false := by simp; omega
  obtain ⟨ua, uc, hu⟩ : ∃ a c, u = .slice a f.2.2.length c := by
    obtain ⟨a, c, e, _⟩ := own_ms R.ou
    exact ⟨a, c, e⟩
  subst hu
  have hxz : ((f.2.2.length : Int) == 0) = false := by
    have := List.length_pos_iff.2 hx
    simp; exact hx
  clear hx
  clear S R h hw
  go_enter Tryz.func62, Tryz.ntmps62
  go_wp2_with fail
  refine HC.out.mono ?_
  rintro e w ⟨rfl, rfl⟩
  go_wp2_with fail
  refine HSP.out.mono ?_
  rintro e w1 ⟨X, rfl, hX', hc, hb, hz⟩
  rw [HW.out] at hX'
  obtain rfl := threeX hX'
  have d0 : w1.cell? ⟨w.heap.size, 0, none⟩ = some (.string ⟨#[114, 101, 113, 117, 105, 114, 101]⟩) := hc 0 (by simp)
  have c2 := (HRD.out.below hb).c2
  have HR1 := hid (HRD.out.below hb)
  have g0 := (HS.out.below hb).sen.g0
  clear hc hb hX'
  go_wp2_with fail
  go_ret
  exact ⟨rfl, HR1.out⟩
set_option maxHeartbeats 2000000 in
set_option maxRecDepth 100000 in
/-- A line that neither requires nor excludes. -/
theorem line_e5 (s : ByteArray) (l : List UInt8) (a b c : List UInt8) (i : Nat) (f : Fs) (v u : Value) (A : Nat → Addr) (m : Int) (kp : Nat × Array Value) (w0 w : World) (fb : Nat) (hs : s.size < 4294967281) (S : Te w A m) (R : Rd kp w0 w fb f v u) (h : s.data.toList = l ++ [10]) (hw : cutAt 32 l = [a, b, c]) (h1 : ¬ a = wRequire) (h2 : ¬ a = wExclude) (hi : 0 < i) :
    Calls Tryz.prog 62 #[.pointer (some ⟨fb, 0, none⟩), .int .i64 i, .string s] w fun e w' => e = .returned (errA A 1) ∧ Rd kp w0 w' fb f v u := by
  have HC := hid (cutS s l w hs h)
  have HSP := hid (split_any 32 (bt l) m w (by
    have := congrArg List.length h
    simp at this
    rw [← len_eq, bt_list]; omega) S.ml)
  rw [bt_list] at HSP
  have HRD := hid R
  have HS := hid S
  have HW := hid hw
  have hi1 : (0 : Int) < (i : Int) := by omega
  have hi2 : ((i : Int) == 0) = false := by simp; omega
  have hq := bt_ne h1
  have hq' := bt_ne' h1
  have hr := bt_ne h2
  have hr' := bt_ne' h2
  unfold wRequire at hq hq'
  unfold wExclude at hr hr'
  clear h1 h2
  clear S R h hw
  go_enter Tryz.func62, Tryz.ntmps62
  go_wp2_with fail
  refine HC.out.mono ?_
  rintro e w ⟨rfl, rfl⟩
  go_wp2_with fail
  refine HSP.out.mono ?_
  rintro e w1 ⟨X, rfl, hX', hc, hb, hz⟩
  rw [HW.out] at hX'
  obtain rfl := threeX hX'
  have d0 : w1.cell? ⟨w.heap.size, 0, none⟩ = some (.string (bt a)) := hc 0 (by simp)
  have HR1 := hid (HRD.out.below hb)
  have g0 := (HS.out.below hb).sen.g0
  clear hc hb hX'
  go_wp2_with fail
  go_ret
  exact ⟨rfl, HR1.out⟩
end Ve
end Go.Proofs.YtjphlclhkaoipaaGreatDoor

/-
  What readLine of package file does with any line; what place.First does over lines.
-/
namespace Go.Proofs.YtjphlclhkaoipaaGreatDoor
open Go.RowKit
namespace Ve

/-- What a line leaves behind it. -/
def LineP (kp : Nat × Array Value) (w0 w' : World) (fb : Nat) (A : Nat → Addr) (f : Fs) (e : Ending) (o : Option Fs) : Prop := match o with
  | some f' => e = .returned .nilIface ∧ ∃ v u, Rd kp w0 w' fb f' v u
  | none => e = .returned (errA A 1) ∧ ∃ v u, Rd kp w0 w' fb f v u
theorem line_any (s : ByteArray) (l : List UInt8) (i : Nat) (f : Fs) (v u : Value) (A : Nat → Addr) (m : Int) (kp : Nat × Array Value) (w0 w : World) (fb : Nat) (hs : s.size < 4294967281) (S : Te w A m) (R : Rd kp w0 w fb f v u) (h : s.data.toList = l ++ [10]) (hn : f.2.1.length + f.2.2.length ≤ 1000000) :
    Calls Tryz.prog 62 #[.pointer (some ⟨fb, 0, none⟩), .int .i64 i, .string s] w fun e w' => LineP kp w0 w' fb A f e (stepF i (cutAt 32 l) f) := by
  by_cases hi : i = 0
  · match hw : cutAt 32 l with
    | [a, b] =>
      by_cases ha : a = wModule
      · have hst : stepF i [a, b] f = some (bt b, f.2) := by unfold stepF; rw [if_pos hi]; simp only; rw [if_pos ha]
        rw [hst]
        exact (line_mod s l (bt b) i f v u A m kp w0 w fb hs S R h (by rw [hw, ha, bt_list]) hi).mono fun e w' ⟨h1, h2⟩ => ⟨h1, _, _, h2⟩
      · have hst : stepF i [a, b] f = none := by unfold stepF; rw [if_pos hi]; simp only; rw [if_neg ha]
        rw [hst]
        exact (line_e2 s l a b i f v u A m kp w0 w fb hs S R h hw ha hi).mono fun e w' ⟨h1, h2⟩ => ⟨h1, _, _, h2⟩
    | [] => exact absurd hw (cutAt_ne 32 l)
    | [a] =>
      have hst : stepF i [a] f = none := by unfold stepF; rw [if_pos hi]
      rw [hst]
      exact (line_e1 s l i f v u A m kp w0 w fb hs S R h (by rw [hw]; simp) hi).mono fun e w' ⟨h1, h2⟩ => ⟨h1, _, _, h2⟩
    | a :: b :: c :: r =>
      have hst : stepF i (a :: b :: c :: r) f = none := by unfold stepF; rw [if_pos hi]
      rw [hst]
      exact (line_e1 s l i f v u A m kp w0 w fb hs S R h (by rw [hw]; simp) hi).mono fun e w' ⟨h1, h2⟩ => ⟨h1, _, _, h2⟩
  · have hp : 0 < i := by omega
    match hw : cutAt 32 l with
    | [a, b, c] =>
      by_cases ha : a = wRequire
      · by_cases hx : f.2.2 = []
        · have hst : stepF i [a, b, c] f = some (f.1, f.2.1 ++ [(bt b, bt c)], f.2.2) := by unfold stepF; rw [if_neg hi]; simp only; rw [if_pos ⟨ha, hx⟩]
          rw [hst]
          exact line_req s l (bt b) (bt c) i f v u A m kp w0 w fb hs S R h (by rw [hw, ha, bt_list, bt_list]) hp hx (by omega)
        · have hst : stepF i [a, b, c] f = none := by unfold stepF; rw [if_neg hi]; simp only; rw [if_neg (fun h => hx h.2), if_neg (by rw [ha]; decide)]
          rw [hst]
          exact (line_e4 s l b c i f v u A m kp w0 w fb hs S R h (by rw [hw, ha]) hp hx).mono fun e w' ⟨h1, h2⟩ => ⟨h1, _, _, h2⟩
      · by_cases he : a = wExclude
        · have hst : stepF i [a, b, c] f = some (f.1, f.2.1, f.2.2 ++ [(bt b, bt c)]) := by unfold stepF; rw [if_neg hi]; simp only; rw [if_neg (fun h => ha h.1), if_pos he]
          rw [hst]
          exact line_exc s l (bt b) (bt c) i f v u A m kp w0 w fb hs S R h (by rw [hw, he, bt_list, bt_list]) hp (by omega)
        · have hst : stepF i [a, b, c] f = none := by unfold stepF; rw [if_neg hi]; simp only; rw [if_neg (fun h => ha h.1), if_neg he]
          rw [hst]
          exact (line_e5 s l a b c i f v u A m kp w0 w fb hs S R h hw ha he hp).mono fun e w' ⟨h1, h2⟩ => ⟨h1, _, _, h2⟩
    | [] => exact absurd hw (cutAt_ne 32 l)
    | [a] =>
      have hst : stepF i [a] f = none := by unfold stepF; rw [if_neg hi]
      rw [hst]
      exact (line_e3 s l i f v u A m kp w0 w fb hs S R h (by rw [hw]; simp) hp).mono fun e w' ⟨h1, h2⟩ => ⟨h1, _, _, h2⟩
    | [a, b] =>
      have hst : stepF i [a, b] f = none := by unfold stepF; rw [if_neg hi]
      rw [hst]
      exact (line_e3 s l i f v u A m kp w0 w fb hs S R h (by rw [hw]; simp) hp).mono fun e w' ⟨h1, h2⟩ => ⟨h1, _, _, h2⟩
    | a :: b :: c :: d :: r =>
      have hst : stepF i (a :: b :: c :: d :: r) f = none := by unfold stepF; rw [if_neg hi]
      rw [hst]
      exact (line_e3 s l i f v u A m kp w0 w fb hs S R h (by rw [hw]; simp) hp).mono fun e w' ⟨h1, h2⟩ => ⟨h1, _, _, h2⟩

set_option maxHeartbeats 1000000 in
/-- The closure of readLines at a line that has an end. -/
theorem lineK_end (s : ByteArray) (l : List UInt8) (i : Nat) (f : Fs) (v u : Value) (A : Nat → Addr) (m : Int) (kp : Nat × Array Value) (w0 w : World) (fb : Nat) (hs : s.size < 4294967281) (S : Te w A m) (R : Rd kp w0 w fb f v u) (h : s.data.toList = l ++ [10]) (hn : f.2.1.length + f.2.2.length ≤ 1000000) :
    Calls Tryz.prog 61 #[.int .i64 i, .string s, .pointer (some ⟨fb, 0, none⟩)] w fun e w' => LineP kp w0 w' fb A f e (stepF i (cutAt 32 l) f) := by
  have HL := hid (line_any s l i f v u A m kp w0 w fb hs S R h hn)
  have hne : ¬ s = ⟨#[]⟩ := fun e => by
    rw [e] at h
    have := congrArg List.length h
    simp at this
  have hq := str_ne hne
  have hq' : (s.toList == []) = false := by
    rw [show ((⟨#[]⟩ : ByteArray).toList) = [] by rw [ByteArray.toList_eq]] at hq; exact hq
  clear S R h hne
  generalize stepF i (cutAt 32 l) f = o at *
  cases hp : decide (0 < i)
  · have hi : i = 0 := by have := of_decide_eq_false hp; omega
    subst hi
    clear hp
    go_enter Tryz.func61, Tryz.ntmps61
    go_wp2_with fail
    refine HL.out.mono ?_
    intro e w1 he
    cases o with
    | none =>
      obtain ⟨rfl, v', u', hr⟩ := he
      have HR := hid hr
      clear hr
      go_wp2_with fail
      go_ret
      exact ⟨rfl, _, _, HR.out⟩
    | some f' =>
      obtain ⟨rfl, v', u', hr⟩ := he
      have HR := hid hr
      clear hr
      go_wp2_with fail
      go_ret
      exact ⟨rfl, _, _, HR.out⟩
  · have hi : (0 : Int) < (i : Int) := by have := of_decide_eq_true hp; omega
    clear hp
    go_enter Tryz.func61, Tryz.ntmps61
    go_wp2_with fail
    refine HL.out.mono ?_
    intro e w1 he
    cases o with
    | none =>
      obtain ⟨rfl, v', u', hr⟩ := he
      have HR := hid hr
      clear hr
      go_wp2_with fail
      go_ret
      exact ⟨rfl, _, _, HR.out⟩
    | some f' =>
      obtain ⟨rfl, v', u', hr⟩ := he
      have HR := hid hr
      clear hr
      go_wp2_with fail
      go_ret
      exact ⟨rfl, _, _, HR.out⟩
set_option maxHeartbeats 1000000 in
/-- .. at the last piece, which has none: it is empty. -/
theorem lineK_nil (i : Nat) (w : World) (fb : Nat) (hi : 0 < i) :
    Calls Tryz.prog 61 #[.int .i64 i, .string ⟨#[]⟩, .pointer (some ⟨fb, 0, none⟩)] w fun e w' => e = .returned .nilIface ∧ w' = w := by
  have hi : (0 : Int) < (i : Int) := by omega
  go_enter Tryz.func61, Tryz.ntmps61
  go_wp2_with fail
  go_ret
  exact ⟨rfl, rfl⟩
set_option maxHeartbeats 1000000 in
/-- .. it is the first, or not empty. -/
theorem lineK_open (s : ByteArray) (i : Nat) (A : Nat → Addr) (m : Int) (w : World) (fb : Nat) (hs : s.size < 4294967281) (S : Te w A m) (h : (10 : UInt8) ∉ s.data.toList) (hb : i = 0 ∨ ¬ s = ⟨#[]⟩) :
    Calls Tryz.prog 61 #[.int .i64 i, .string s, .pointer (some ⟨fb, 0, none⟩)] w fun e w' => e = .returned (errA A 1) ∧ w' = w := by
  have HL := hid (line_open s i A m w fb hs S h)
  clear S h
  by_cases hi : i = 0
  · subst hi
    clear hb
    go_enter Tryz.func61, Tryz.ntmps61
    go_wp2_with fail
    refine HL.out.mono ?_
    rintro e w ⟨rfl, rfl⟩
    go_wp2_with fail
    go_ret
    exact ⟨rfl, rfl⟩
  · have hne : ¬ s = ⟨#[]⟩ := hb.resolve_left hi
    have hi : (0 : Int) < (i : Int) := by omega
    have hq := str_ne hne
    have hq' : (s.toList == []) = false := by
      rw [show ((⟨#[]⟩ : ByteArray).toList) = [] by rw [ByteArray.toList_eq]] at hq; exact hq
    clear hb hne
    go_enter Tryz.func61, Tryz.ntmps61
    go_wp2_with fail
    refine HL.out.mono ?_
    rintro e w ⟨rfl, rfl⟩
    go_wp2_with fail
    go_ret
    exact ⟨rfl, rfl⟩

set_option maxHeartbeats 1000000 in
/-- place.First over texts, with what holds ahead of each. -/
theorem first_strs (K : Nat) (cb : Array Value) (E : Nat → Nat) (X : List ByteArray) (pb c : Nat) (I : Nat → World → Prop) (J : World → Prop) (A : Nat → Addr) (w : World) (eg : ∀ args w, (callFunc K args).run Tryz.prog w = .ok (.enter K args) w) (hX : X.length ≤ 1000000)
    (hc : ∀ k W, I k W → ∀ j (h : j < X.length), W.cell? ⟨pb, j, none⟩ = some (.string X[j])) (hJ : ∀ k W, I k W → J W) (hA : ∀ W o, J W → J (W.alloc o)) (h0 : I 0 w)
    (hK : ∀ i (h : i < X.length) W, I i W → Calls Tryz.prog K (#[.int .i64 (i : Int), .string X[i]] ++ cb) W fun e w' => e = .returned (errA A (E i)) ∧ (E i = 0 → I (i + 1) w') ∧ J w') :
    Calls Tryz.prog 59 #[.slice (some ⟨pb, 0, none⟩) X.length c, .func (.func K) #[] cb] w fun e w' => ∃ v, e = .returned v ∧ ErrAt w' A v (codeE E X.length) (fstE E X.length) ∧ (fstE E X.length = none → I X.length w') ∧ J w' := by
  have HK := hid hK
  have HC := hid hc
  have HJ := hid hJ
  have HA := hid hA
  have H0 := hid h0
  clear hK hc hJ hA h0
  go_enter Tryz.func59, Tryz.ntmps59
  go_wp2_with fail
  go_loopw [10] (fun i wr => ∃ k : Nat, k ≤ X.length ∧ i = .int .i64 k ∧ Hid (∀ j, j < k → E j = 0) ∧ Hid (I k wr)) (fun i _ => X.length - (intOf i).toNat)
  case atStart => exact ⟨0, Nat.zero_le _, rfl, hid (fun j hj => absurd hj (by omega)), H0⟩
  case round =>
    obtain ⟨k, hk, rfl, HE, HI⟩ := hrel
    by_cases hlt : k < X.length
    · have hx := HC.out k wr HI.out k hlt
      have HP := hid (HK.out k hlt wr HI.out)
      by_cases he : E k = 0
      · rw [he, errA0] at HP
        go_wp2_with fail
        refine HP.out.mono ?_
        rintro e w1 ⟨rfl, hi, _⟩
        have HI1 := hid (hi trivial)
        clear hi
        go_wp2_with fail
        go_roundw
        case rel => exact ⟨k + 1, by omega, by go_num, hid (fun j hj => by
          rcases Nat.lt_or_ge j k with h | h
          · exact HE.out j h
          · have : j = k := by omega
            rw [this]; exact he), HI1⟩
        case measure => simp [intOf]; omega
      · rw [errA_if A he] at HP
        have HF := hid (fstE_some HE.out he hlt)
        have HN := hid he
        clear he
        go_wp2_with fail
        refine HP.out.mono ?_
        rintro e w1 ⟨rfl, _, hb1⟩
        have HB1 := hid hb1
        clear hb1
        go_wp2_with fail
        go_ret
        refine ⟨_, rfl, ?_, fun h => ?_, HA.out _ _ HB1.out⟩
        · rw [codeE_some HF.out, HF.out]
          exact fault_at HN.out _
        · rw [HF.out] at h; cases h
    · have HF := hid (fstE_none (E := E) (n := X.length) (fun j hj => HE.out j (by omega)))
      have HKN := hid (show k = X.length by omega)
      go_wp2_with fail
      go_ret
      refine ⟨_, rfl, ?_, fun _ => ?_, HJ.out k _ HI.out⟩
      · rw [codeE_none HF.out, HF.out]
        rfl
      · rw [← HKN.out]; exact HI.out
end Ve
end Go.Proofs.YtjphlclhkaoipaaGreatDoor
