/-
  FileT
-/
import Derived.Test.YtiebgeamfblbdaaGreatDoorFb22
import Derived.Test.YtiebgeamfblbdaaGreatDoorFb27
import Derived.Deep.AppendLies
import Derived.Deep.RegionHeld3
namespace Go.Proofs.YtiebgeamfblbdaaGreatDoor
open Go.RowKit
namespace Ve
structure Rd (kp : Nat × Array Value) (w0 W : World) (fb : Nat) (f : Fs) (v u : Value) : Prop where
  kb : W.heap[kp.1]? = some (.cells kp.2 9 (0, 0))
  bl : Below w0.heap.size w0 W
  lo : w0.heap.size ≤ fb
  blk : W.heap[fb]? = some (.cells #[.string f.1, v, u] 24 (0, 0))
  ov : W.ownsRow w0.heap.size 26 2 v f.2.1.length (flatM f.2.1)
  ou : W.ownsRow w0.heap.size 26 2 u f.2.2.length (flatM f.2.2)
  ap : ∀ g, v.ownBlock = some g → u.ownBlock ≠ some g
theorem Rd.below {kp : Nat × Array Value} {w0 W W' : World} {fb : Nat} {f : Fs} {v u : Value} (h : Rd kp w0 W fb f v u) (hb : Below W.heap.size W W') : Rd kp w0 W' fb f v u :=
  ⟨by rw [hb.block _ (lt_of_blk h.kb)]; exact h.kb, h.bl.trans (hb.mono h.bl.size), h.lo, by rw [hb.block _ (lt_of_blk h.blk)]; exact h.blk, owns_below h.ov hb, owns_below h.ou hb, h.ap⟩
theorem Rd.c0 {kp : Nat × Array Value} {w0 W : World} {fb : Nat} {f : Fs} {v u : Value} (h : Rd kp w0 W fb f v u) : W.cell? ⟨fb, 0, none⟩ = some (.string f.1) := by rw [Lib.cell_of_heap h.blk]; rfl
theorem Rd.c1 {kp : Nat × Array Value} {w0 W : World} {fb : Nat} {f : Fs} {v u : Value} (h : Rd kp w0 W fb f v u) : W.cell? ⟨fb, 1, none⟩ = some v := by rw [Lib.cell_of_heap h.blk]; rfl
theorem Rd.c2 {kp : Nat × Array Value} {w0 W : World} {fb : Nat} {f : Fs} {v u : Value} (h : Rd kp w0 W fb f v u) : W.cell? ⟨fb, 2, none⟩ = some u := by rw [Lib.cell_of_heap h.blk]; rfl
theorem Rd.fz {kp : Nat × Array Value} {w0 W : World} {fb : Nat} {f : Fs} {v u : Value} (h : Rd kp w0 W fb f v u) (o : Nat) : W.frozen? ⟨fb, o, none⟩ = false := Lib.frozen_of_heap h.blk o
theorem Rd.nv {kp : Nat × Array Value} {w0 W : World} {fb : Nat} {f : Fs} {v u : Value} (h : Rd kp w0 W fb f v u) : v.ownBlock ≠ some fb := own_ne2 h.ov h.blk (by decide)
theorem Rd.nu {kp : Nat × Array Value} {w0 W : World} {fb : Nat} {f : Fs} {v u : Value} (h : Rd kp w0 W fb f v u) : u.ownBlock ≠ some fb := own_ne2 h.ou h.blk (by decide)
theorem Rd.nk {kp : Nat × Array Value} {w0 W : World} {fb : Nat} {f : Fs} {v u : Value} (h : Rd kp w0 W fb f v u) : kp.1 ≠ fb := fun e => by
  have h1 := h.kb
  rw [e, h.blk] at h1
  simp only [Option.some.injEq, Obj.cells.injEq] at h1
  exact absurd h1.2.1 (by decide)
theorem Rd.path {kp : Nat × Array Value} {w0 W : World} {fb : Nat} {f : Fs} {v u : Value} (h : Rd kp w0 W fb f v u) (p : ByteArray) : Rd kp w0 (W.setCell ⟨fb, 0, none⟩ (.string p)) fb (p, f.2) v u :=
  ⟨keep_set h.kb h.nk, h.bl.setCell (p := ⟨fb, 0, none⟩) h.lo _, h.lo, by rw [set_block h.blk]; rfl, owns_set h.ov h.nv, owns_set h.ou h.nu, h.ap⟩
theorem Rd.req {kp : Nat × Array Value} {w0 W W1 W3 : World} {fb g cap : Nat} {f : Fs} {v u : Value} {m : Bm} (h : Rd kp w0 W fb f v u) (hb1 : Below W.heap.size W W1)
    (hown : W3.ownsRow w0.heap.size 26 2 (.slice (some ⟨g, 0, none⟩) (f.2.1.length + 1) cap) (f.2.1.length + 1) (flatM f.2.1 ++ [.string m.1, .string m.2])) (hg : W1.grownBy W3 v.ownBlock) (hat : v.ownBlock = some g ∨ g = W1.heap.size) :
    Rd kp w0 (W3.setCell ⟨fb, 1, none⟩ (.slice (some ⟨g, 0, none⟩) (f.2.1.length + 1) cap)) fb (f.1, f.2.1 ++ [m], f.2.2) (.slice (some ⟨g, 0, none⟩) (f.2.1.length + 1) cap) u := by
  have h1 := h.below hb1
  have hlt := lt_of_blk h1.blk
  have hbk : W3.heap[fb]? = some (.cells #[.string f.1, v, u] 24 (0, 0)) := by rw [hg.block fb hlt (fun e => h1.nv e.symm)]; exact h1.blk
  have hb3 : Below w0.heap.size w0 W3 := h1.bl.grown hg h1.bl.size (fun k hk => (h1.ov.lt k hk).1)
  have hu3 := owns_far h1.ou hg (fun k hk e => h1.ap k e hk)
  have hkb : W3.heap[kp.1]? = some (.cells kp.2 9 (0, 0)) := by rw [hg.block kp.1 (lt_of_blk h1.kb) (fun e => own_ne2 h1.ov h1.kb (by decide) e.symm)]; exact h1.kb
  have hne : (Value.slice (some ⟨g, 0, none⟩) (f.2.1.length + 1) cap).ownBlock ≠ some fb := own_ne2 hown hbk (by decide)
  refine ⟨keep_set hkb h.nk, hb3.setCell (p := ⟨fb, 1, none⟩) h.lo _, h.lo, by rw [set_block hbk]; rfl, ?_, owns_set hu3 (own_ne2 hu3 hbk (by decide)), ?_⟩
  · have := owns_set (o := 1) (x := .slice (some ⟨g, 0, none⟩) (f.2.1.length + 1) cap) hown hne
    rw [show (f.1, f.2.1 ++ [m], f.2.2).2.1 = f.2.1 ++ [m] from rfl, List.length_append, flatM_app]
    exact this
  · intro k hk hu
    have hk : g = k := by simpa [Value.ownBlock] using hk
    rcases hat with hat | hat
    · exact h1.ap g hat (by rw [hk]; exact hu)
    · have := (own_lt h1.ou hu).1
      omega
theorem Rd.exc {kp : Nat × Array Value} {w0 W W1 W3 : World} {fb g cap : Nat} {f : Fs} {v u : Value} {m : Bm} (h : Rd kp w0 W fb f v u) (hb1 : Below W.heap.size W W1)
    (hown : W3.ownsRow w0.heap.size 26 2 (.slice (some ⟨g, 0, none⟩) (f.2.2.length + 1) cap) (f.2.2.length + 1) (flatM f.2.2 ++ [.string m.1, .string m.2])) (hg : W1.grownBy W3 u.ownBlock) (hat : u.ownBlock = some g ∨ g = W1.heap.size) :
    Rd kp w0 (W3.setCell ⟨fb, 2, none⟩ (.slice (some ⟨g, 0, none⟩) (f.2.2.length + 1) cap)) fb (f.1, f.2.1, f.2.2 ++ [m]) v (.slice (some ⟨g, 0, none⟩) (f.2.2.length + 1) cap) := by
  have h1 := h.below hb1
  have hlt := lt_of_blk h1.blk
  have hbk : W3.heap[fb]? = some (.cells #[.string f.1, v, u] 24 (0, 0)) := by rw [hg.block fb hlt (fun e => h1.nu e.symm)]; exact h1.blk
  have hb3 : Below w0.heap.size w0 W3 := h1.bl.grown hg h1.bl.size (fun k hk => (h1.ou.lt k hk).1)
  have hv3 := owns_far h1.ov hg (fun k hk e => h1.ap k hk e)
  have hkb : W3.heap[kp.1]? = some (.cells kp.2 9 (0, 0)) := by rw [hg.block kp.1 (lt_of_blk h1.kb) (fun e => own_ne2 h1.ou h1.kb (by decide) e.symm)]; exact h1.kb
  have hne : (Value.slice (some ⟨g, 0, none⟩) (f.2.2.length + 1) cap).ownBlock ≠ some fb := own_ne2 hown hbk (by decide)
  refine ⟨keep_set hkb h.nk, hb3.setCell (p := ⟨fb, 2, none⟩) h.lo _, h.lo, by rw [set_block hbk]; rfl, owns_set hv3 (own_ne2 hv3 hbk (by decide)), ?_, ?_⟩
  · have := owns_set (o := 2) (x := .slice (some ⟨g, 0, none⟩) (f.2.2.length + 1) cap) hown hne
    rw [show (f.1, f.2.1, f.2.2 ++ [m]).2.2 = f.2.2 ++ [m] from rfl, List.length_append, flatM_app]
    exact this
  · intro k hk hu
    have hu : g = k := by simpa [Value.ownBlock] using hu
    rcases hat with hat | hat
    · exact h1.ap k hk (by rw [← hu]; exact hat)
    · have := (own_lt h1.ov hk).1
      omega
end Ve
end Go.Proofs.YtiebgeamfblbdaaGreatDoor
