/-
  There is a latest of each path; it hangs on the entries' modules and marks alone (plain).
-/
import Derived.Test.YtanponneancajaaGreatDoorKeR
import Derived.Test.YtanponneancajaaGreatDoorKeX
import Derived.Test.YtanponneancajaaGreatDoorUpD
namespace Go.Proofs.YtanponneancajaaGreatDoor
open Go.RowKit Go.Maps
namespace Ve

theorem keptT_ex {Q : List Raw} (g : Good Q) (t : ByteArray) : ∃ Y, KeptT Q t Y :=
  kept_ex (verL_ok g fun r hr => ofP_sub r (bestR_sub hr))
theorem latK_all {Q : List Raw} (g : Good Q) (E : List Bm) : LatK Q E := fun x _ => keptT_ex g x.1
theorem verL_same {Q Q' : List Raw} (h : Q.map keyR = Q'.map keyR) (t : ByteArray) : verL (bestR (ofP t Q)) = verL (bestR (ofP t Q')) := by
  rw [key_ver, key_ver, key_best, key_best]
  have e := fun Q => key_filter (fun k => decide (k.1.1 = t) && decide (verErr k.1.2.data.toList = 0)) (isP t) (fun _ => rfl) Q
  unfold ofP
  rw [e Q, e Q', h]
theorem latV_same {Q Q' : List Raw} (h : Q.map keyR = Q'.map keyR) (t : ByteArray) : latV Q t = latV Q' t := by
  unfold latV KeptT
  rw [verL_same h]
theorem latL_same {Q Q' : List Raw} (h : Q.map keyR = Q'.map keyR) (E : List Bm) : latL Q E = latL Q' E := by
  unfold latL
  congr 1
  funext m
  rw [latV_same h]
theorem newsL_same {Q Q' : List Raw} (h : Q.map keyR = Q'.map keyR) (E : List Bm) : newsL Q E = newsL Q' E := by
  unfold newsL
  rw [show (fun m : Bm => lessB (vb m) (latV Q m.1).data.toList) = fun m => lessB (vb m) (latV Q' m.1).data.toList from funext fun m => by rw [latV_same h]]
  congr 1
  funext m
  rw [latV_same h]
theorem upF_same {Q Q' : List Raw} {L : List Ent} (h : Q.map keyR = Q'.map keyR) (E : List Bm) : upF Q L E = upF Q' L E := by
  unfold upF
  rw [latL_same h, bX_same (key_mod h)]
theorem upN_same {Q Q' : List Raw} {L : List Ent} (h : Q.map keyR = Q'.map keyR) (E : List Bm) : ∀ n, upN Q L E n = upN Q' L E n
  | 0 => rfl
  | n + 1 => by
    show upF Q L (upN Q L E n) = upF Q' L (upN Q' L E n)
    rw [upN_same h E n, upF_same h]
theorem Fix.same {Q Q' : List Raw} {L : List Ent} {E0 E : List Bm} (h : Q.map keyR = Q'.map keyR) (f : Fix Q L E0 E) : Fix Q' L E0 E := by
  obtain ⟨n, hn⟩ := f.n
  exact ⟨⟨n, by rw [hn, upN_same h]⟩, by rw [← upF_same h]; exact f.f⟩
open Classical in
/-- Where nothing changes any more. -/
noncomputable def allE (Q : List Raw) (L : List Ent) (roots : List Bm) : List Bm := if h : (chkG Q L roots).1 = 0 ∧ ∃ E, Fix Q L (bX Q L roots) E then h.2.choose else []
theorem allE_of {Q : List Raw} {L : List Ent} {roots E : List Bm} (h : (chkG Q L roots).1 = 0) (f : Fix Q L (bX Q L roots) E) : E = allE Q L roots := by
  have he : (chkG Q L roots).1 = 0 ∧ ∃ E, Fix Q L (bX Q L roots) E := ⟨h, E, f⟩
  unfold allE
  rw [dif_pos he]
  exact f.one he.2.choose_spec
theorem allE_bad {Q : List Raw} {L : List Ent} {roots : List Bm} (h : ¬ (chkG Q L roots).1 = 0) : allE Q L roots = [] := by
  unfold allE
  rw [dif_neg (fun e => h e.1)]
theorem allE_same {Q Q' : List Raw} {L : List Ent} (h : Q.map keyR = Q'.map keyR) {roots E : List Bm} (hc : (chkG Q L roots).1 = 0) (f : Fix Q L (bX Q L roots) E) : allE Q L roots = allE Q' L roots := by
  rw [← allE_of hc f]
  have f' := f.same h
  rw [bX_same (key_mod h)] at f'
  exact allE_of (by rw [← chkG_same (key_mod h)]; exact hc) f'
end Ve
end Go.Proofs.YtanponneancajaaGreatDoor
