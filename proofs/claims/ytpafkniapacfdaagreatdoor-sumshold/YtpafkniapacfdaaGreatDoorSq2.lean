
import Derived.Test.YtpafkniapacfdaaGreatDoorProg
import Derived.Calls
import Derived.Shelf.SlSortCmp.WholeK
import Derived.Shelf.SlGeneric
import Derived.ProofKit
import Derived.LaidMore
import Derived.Lay
import Derived.Stop.Joined
import Derived.HandedShaped
import Derived.LaidLaws
import Derived.Below



namespace Go.Proofs.YtpafkniapacfdaaGreatDoor
namespace Mo
def Ge {α : Type} (d : Nat) : Result α → Prop
  | .ok _ w => d ≤ w.drawn
  | .halt _ w => d ≤ w.drawn
theorem Ge.le {α : Type} {d d' : Nat} {r : Result α} (h : Ge d r) (hd : d' ≤ d) : Ge d' r := by
  cases r <;> exact Nat.le_trans hd h
theorem ask_ge {α : Type} : ∀ (a : Ask α) (w : World), w.drawn ≤ (w.ask a).2.drawn := fun a => by
  induction a with
  | done a => intro w; exact Nat.le_refl _
  | ask what range k ih =>
    intro w
    unfold World.ask
    dsimp only
    split
    · exact ih 0 w
    · exact Nat.le_trans (Nat.le_succ _) (ih _ { w with drawn := w.drawn + 1 })
theorem sys_ge (w : World) (c : Sys) : w.drawn ≤ (w.sys c).2.drawn := by
  have h := ask_ge (Kernel.perform c w.os) w
  unfold World.sys
  split
  · exact Nat.le_refl _
  · rename_i h2
    rw [h2] at h
    exact h
theorem view_ge {P : Program} {w : World} {at_ : Addr} {u : TypeId} {k : Addr} {v : Value} {b : Bool} {r : World × List Addr} (h : w.viewStore P at_ u k v b = .ok r) : r.1.drawn = w.drawn := by
  unfold World.viewStore at h
  simp only [bind, Except.bind, pure, Except.pure] at h
  repeat' split at h
  all_goals first
    | (cases h; rfl)
    | cases h
theorem far_ge {P : Program} {w : World} {a : Addr} {v : Value} {b : Bool} {r : World × List Addr} (h : w.farStore P a v b = .ok r) : r.1.drawn = w.drawn := by
  unfold World.farStore at h
  split at h
  · split at h
    · rename_i h2
      cases h
      exact view_ge h2
    · cases h
  · cases h
theorem freeze_ge (w : World) (a : Addr) (n : Nat) : (w.freeze a n).drawn = w.drawn := by
  unfold World.freeze
  split <;> rfl
theorem run_ge {α : Type} (P : Program) (s : Sem α) : ∀ w : World, Ge w.drawn (s.run P w) := by
  induction s with
  | pure a => intro w; exact Nat.le_refl _
  | load m a k ih =>
    intro w
    unfold Sem.run
    split
    · exact ih _ w
    · split
      · exact ih _ w
      · exact Nat.le_refl _
  | store m a v k ih =>
    intro w
    cases v
    case agg => exact Nat.le_refl _
    case tuple => exact Nat.le_refl _
    all_goals
      simp only [Sem.run]
      split
      · split
        · exact Nat.le_refl _
        · exact ih _
      · split
        · rename_i h2
          have := far_ge h2
          rw [← this]
          exact ih _
        · exact Nat.le_refl _
  | new o k ih => intro w; exact ih _ { w with heap := w.heap.push o }
  | shape r k ih => intro w; exact ih _ w
  | freeze a n k ih => intro w; have := ih (w.freeze a n); rw [freeze_ge] at this; exact this
  | frozen a k ih => intro w; exact ih _ w
  | getObj r k ih =>
    intro w
    unfold Sem.run
    split
    · exact Nat.le_refl _
    · exact ih _ w
    · exact Nat.le_refl _
  | setObj r o k ih =>
    intro w
    unfold Sem.run
    split
    · exact Nat.le_refl _
    · exact ih { w with heap := w.heap.setIfInBounds r o }
    · exact Nat.le_refl _
  | choose q k ih =>
    intro w
    unfold Sem.run
    split
    · exact ih _ w
    · exact (ih _ { w with drawn := w.drawn + 1 }).le (Nat.le_succ _)
  | sys c k ih => intro w; exact (ih _ _).le (sys_ge w c)
  | program k ih => intro w; exact ih _ w
  | mark m k ih => intro w; exact ih w
  | halt h => intro w; exact Nat.le_refl _
theorem run_ok {α : Type} {P : Program} {s : Sem α} {w w' : World} {a : α} (h : s.run P w = .ok a w') : w.drawn ≤ w'.drawn := by
  have := run_ge P s w
  rw [h] at this
  exact this
theorem run_ha {α : Type} {P : Program} {s : Sem α} {w w' : World} {a : Halt} (h : s.run P w = .halt a w') : w.drawn ≤ w'.drawn := by
  have := run_ge P s w
  rw [h] at this
  exact this
def Gs (d : Nat) : GStep → Prop
  | .go _ w _ => d ≤ w.drawn
  | .comm _ _ _ _ w _ => d ≤ w.drawn
  | .spawn _ _ w _ => d ≤ w.drawn
  | .count _ w _ => d ≤ w.drawn
  | .timer _ _ w _ => d ≤ w.drawn
  | .alone _ _ w _ => d ≤ w.drawn
  | .newcoro _ _ _ w _ => d ≤ w.drawn
  | .coroswitch _ _ _ w _ => d ≤ w.drawn
  | .collect _ w _ => d ≤ w.drawn
  | .watch _ w _ => d ≤ w.drawn
  | .ended _ _ _ => True
theorem Gs.le {d d' : Nat} {s : GStep} (h : Gs d s) (hd : d' ≤ d) : Gs d' s := by
  cases s <;> first | trivial | exact Nat.le_trans hd h
theorem Gs.after {d : Nat} {es : Array Event} {s : GStep} (h : Gs d s) : Gs d (s.after es) := by
  cases s <;> exact h
def Ss (d : Nat) : Stepped → Prop
  | .next m => d ≤ m.world.drawn
  | .ended _ _ => True
theorem Ss.le {d d' : Nat} {s : Stepped} (h : Ss d s) (hd : d' ≤ d) : Ss d' s := by
  cases s <;> first | trivial | exact Nat.le_trans hd h
def Mv (d : Nat) : Move → Prop
  | .goroutine m _ => d ≤ m.world.drawn
  | .machine s _ => Ss d s
theorem Mv.le {d d' : Nat} {s : Move} (h : Mv d s) (hd : d' ≤ d) : Mv d' s := by
  cases s
  · exact Nat.le_trans hd h
  · exact Ss.le h hd
theorem endThrow_ge (fr : Frame) (m : String) (w : World) : Gs w.drawn (endThrow fr m w) := Nat.le_refl _
theorem endWith_ge (w : World) (fd : Nat) (t : ByteArray) (o : Outcome) (d : Nat) : Gs d (endWith w fd t o) := by
  unfold endWith
  simp only []
  repeat' first
    | trivial
    | split
theorem endPrinting_ge (P : Program) (fr : Frame) (v : Value) (w : World) : Gs w.drawn (endPrinting P fr v w) := by
  unfold endPrinting
  simp only []
  repeat' first
    | trivial
    | exact Nat.le_refl _
    | split
theorem endFatal_ge (P : Program) (fr : Frame) (cs : List Frame) (dy : Option Dying) (m : String) (w : World) : Gs w.drawn (endFatal P fr cs dy m w) := by
  unfold endFatal
  extract_lets
  split
  · exact run_ok (by assumption)
  · trivial
  · trivial
theorem writeOn_ge (P : Program) (fr : Frame) (d : Dying) (f : Fatal) (w : World) : Gs w.drawn (writeOn P fr d f w) := by
  unfold writeOn
  extract_lets
  split
  · trivial
  · extract_lets
    rw [Sem.runT_eq]
    generalize hr : Sem.run P _ w = r
    cases r with
    | ok a w' => exact run_ok hr
    | halt a w' =>
      cases a <;> first | trivial | exact run_ha hr
theorem doReturn_ge (P : Program) (b : Bool) (fr : Frame) (cs : List Frame) (dy : Option Dying) (v : Value) (w : World) : Gs w.drawn (doReturn P b fr cs dy v w) := by
  unfold doReturn
  simp only []
  repeat' first
    | trivial
    | exact Nat.le_refl _
    | split
theorem die_ge (P : Program) (fr : Frame) (d : Dying) (w : World) : Gs w.drawn (die P fr d w) := by
  unfold die
  simp only [Sem.runT_eq]
  repeat' first
    | trivial
    | exact Nat.le_refl _
    | exact writeOn_ge _ _ _ _ _
    | exact endWith_ge _ _ _ _ _
    | exact run_ok (by assumption)
    | refine Gs.after ?_
    | exact (endPrinting_ge _ _ _ _).le (run_ha (by assumption))
    | split
theorem callDeferred_ge (P : Program) (fr : Frame) (cs : List Frame) (dy : Option Dying) (d : Deferred) (w : World) : Gs w.drawn (callDeferred P fr cs dy d w) := by
  unfold callDeferred
  simp only [Sem.runT_eq]
  generalize hr : Sem.run P (invoke d.target d.args) w = r
  cases r with
  | ok a w' =>
    have h2 := run_ok hr
    cases a
    all_goals try dsimp only
    all_goals repeat' first
      | trivial
      | exact h2
      | refine Gs.after ?_
      | (cases ‹Result.ok _ _ = Result.ok _ _› <;> first | exact h2 | trivial)
      | split
  | halt a w' =>
    have h2 := run_ha hr
    cases a
    all_goals try dsimp only
    all_goals repeat' first
      | trivial
      | exact h2
      | refine Gs.after ?_
      | exact (endFatal_ge _ _ _ _ _ _).le h2
      | exact (endThrow_ge _ _ _).le h2
      | split
theorem unwind_ge (P : Program) (b : Bool) (fr : Frame) (cs : List Frame) (dy : Option Dying) (w : World) : Gs w.drawn (unwind P b fr cs dy w) := by
  unfold unwind
  simp only [Sem.runT_eq]
  repeat' first
    | trivial
    | exact Nat.le_refl _
    | exact callDeferred_ge _ _ _ _ _ _
    | exact run_ok (by assumption)
    | refine Gs.after ?_
    | exact endPrinting_ge _ _ _ _
    | exact doReturn_ge _ _ _ _ _ _ _
    | exact (doReturn_ge _ _ _ _ _ _ _).le (run_ok (by assumption))
    | split
theorem early_ge (P : Program) (fr : Frame) (cs : List Frame) (dy : Option Dying) (g : Nat) (w : World) : Gs w.drawn (early P fr cs dy g w) := by
  unfold early
  simp only []
  repeat' first
    | trivial
    | exact Nat.le_refl _
    | (have h9 := run_ok ‹Sem.run P (choose (Question.early g)) w = Result.ok _ _›; exact h9)
    | split
theorem apply_ge (P : Program) (l : Bool) (fr : Frame) (cs : List Frame) (dy : Option Dying) (s : Sem Next) (w : World) : Gs w.drawn (stepG.apply P l fr cs dy s w) := by
  unfold stepG.apply
  have e : (if l = true then s.runT P w #[] else (s.run P w, #[])) = (s.run P w, (if l = true then s.runT P w #[] else (s.run P w, #[])).2) := by
    cases l
    · rfl
    · simp
  simp only []
  rw [e]
  generalize (if l = true then s.runT P w #[] else (s.run P w, #[])).2 = es
  generalize hr : Sem.run P s w = r
  refine Gs.after ?_
  cases r with
  | ok a w' =>
    have h2 := run_ok hr
    cases a
    all_goals try dsimp only
    all_goals repeat' first
      | trivial
      | exact h2
      | exact (endThrow_ge _ _ _).le h2
      | split
  | halt a w' =>
    have h2 := run_ha hr
    cases a
    all_goals try dsimp only
    all_goals repeat' first
      | trivial
      | exact h2
      | exact (endFatal_ge _ _ _ _ _ _).le h2
      | exact (endThrow_ge _ _ _).le h2
      | exact (early_ge _ _ _ _ _ _).le h2
      | (cases ‹Result.halt _ _ = Result.halt _ _› <;> first | exact h2 | exact (early_ge _ _ _ _ _ _).le h2 | trivial)
      | split
theorem oper_ge (P : Program) (l : Bool) (fr : Frame) (cs : List Frame) (dy : Option Dying) (w : World) : Gs w.drawn (stepG.oper P l fr cs dy w) := by
  unfold stepG.oper
  repeat' first
    | trivial
    | exact apply_ge _ _ _ _ _ _ _
    | split
theorem exec_ge (P : Program) (m l : Bool) (fr : Frame) (cs : List Frame) (dy : Option Dying) (w : World) : Gs w.drawn (stepG.exec P m l fr cs dy w) := by
  unfold stepG.exec
  simp only [Sem.runT_eq, Option.elim]
  split
  all_goals try exact Nat.le_refl _
  all_goals repeat' first
    | trivial
    | exact Nat.le_refl _
    | exact apply_ge _ _ _ _ _ _ _
    | exact oper_ge _ _ _ _ _ _
    | exact (doReturn_ge _ _ _ _ _ _ _).le (run_ok (by assumption))
    | exact (apply_ge _ _ _ _ _ _ _).le (run_ok (by assumption))
    | refine Gs.after ?_
    | (have h9 := run_ok (by assumption); exact h9)
    | (have h9 := run_ha (by assumption); exact h9)
    | exact run_ok (by assumption)
    | exact run_ha (by assumption)
    | split
theorem stepG_ge (P : Program) (m l : Bool) (g : Goroutine) (w : World) : Gs w.drawn (stepG P m g w l) := by
  unfold stepG
  repeat' first
    | exact die_ge _ _ _ _
    | exact exec_ge _ _ _ _ _ _ _
    | exact unwind_ge _ _ _ _ _ _
    | split
theorem waiting_ge {rest : Rest} {cases : Array CommCase} {w w' : World} (h : waitingAt rest cases w = some w') : w.drawn ≤ w'.drawn := by
  unfold waitingAt at h
  split at h
  · split at h
    · cases h; exact Nat.le_refl _
    · cases h
  · cases h; exact Nat.le_refl _
theorem comm_ge (P : Program) (rest : Rest) (gs : Array Goroutine) (i : Nat) (g : Goroutine) (cases : Array CommCase) (blocking : Bool) (shape : CommShape) (w : World) : Ss w.drawn (communicate P rest gs i g cases blocking shape w).1 := by
  unfold communicate
  extract_lets
  split
  · trivial
  split
  · split
    · split
      · exact waiting_ge (by assumption)
      · trivial
    · exact Nat.le_refl _
  · split
    · trivial
    · have h9 := run_ok (by assumption)
      try extract_lets
      repeat' first
        | trivial
        | exact h9
        | exact Nat.le_trans h9 (run_ok (by assumption))
        | exact Nat.le_trans h9 (run_ha (by assumption))
        | (have h8 := Nat.le_trans h9 (run_ok (by assumption)); exact h8)
        | split
theorem look_ge (P : Program) (gs : Array Goroutine) (rest : Rest) (w : World) : Ss w.drawn (look P gs rest w) := by
  unfold look
  simp only []
  repeat' first
    | trivial
    | exact run_ok (by assumption)
    | (have h9 := run_ok (by assumption); exact h9)
    | split
theorem serve_ge (P : Program) (m : Machine) (k : Nat) : Ss m.world.drawn (serve P m k) := by
  unfold serve
  simp only []
  repeat' first
    | trivial
    | exact Nat.le_refl _
    | split
theorem drain_ge (w : World) (c : Nat) : w.drawn ≤ (drain w c).2.drawn := by
  unfold drain
  split <;> exact Nat.le_refl _
theorem retime_ge (m : Machine) (k : Nat) (t : Timer) (a b : Nat) : m.world.drawn ≤ (retime m k t a b).2.world.drawn := by
  unfold retime
  cases t.chan with
  | none => exact Nat.le_refl _
  | some c => exact drain_ge m.world c
theorem named_ge {m m0 : Machine} {var : Addr} {f : Nat → Timer → Value × Machine} {r : Value × Machine} (hf : ∀ k t, m0.world.drawn ≤ (f k t).2.world.drawn) (h : timerOp.named m var f = .ok r) : m0.world.drawn ≤ r.2.world.drawn := by
  unfold timerOp.named at h
  split at h
  · cases h; exact hf _ _
  · cases h
theorem timer_ge {m : Machine} {op : TimerOp} {r : Value × Machine} (h : timerOp m op = .ok r) : m.world.drawn ≤ r.2.world.drawn := by
  cases op with
  | new t =>
    unfold timerOp at h
    simp only [] at h
    split at h
    · cases h; exact Nat.le_refl _
    · split at h
      · split at h
        · cases h
        · cases h; exact Nat.le_refl _
      · cases h
  | stop var => exact named_ge (fun k t => retime_ge m k t _ _) h
  | reset var a b =>
    unfold timerOp at h
    simp only [] at h
    split at h
    · rename_i m2 h2
      have e : m.world.drawn ≤ m2.world.drawn := by
        unfold timerOp.opened at h2
        split at h2
        · split at h2
          · cases h2; exact Nat.le_refl _
          · cases h2
        · cases h2; exact Nat.le_refl _
      exact named_ge (fun k t => Nat.le_trans e (retime_ge m2 k t _ _)) h
    · cases h
  | deadline ctx a b c =>
    unfold timerOp at h
    simp only [] at h
    cases h
    exact Nat.le_refl _
theorem runT_ge (P : Program) (m : Machine) (i : Nat) (b : Bool) : Ss m.world.drawn (runT P m i b).1 := by
  simp only [runT]
  generalize m.gs.swapAt! _ _ = gg
  have h := stepG_ge P (i == 0) b gg.1 m.world
  generalize stepG P _ gg.1 m.world b = s at h ⊢
  cases s with
  | go g w es => exact h
  | comm g cs bl sh w es => exact (comm_ge _ _ _ _ _ _ _ _ _).le h
  | spawn g c w es => exact h
  | count g w es =>
    simp only []
    split
    · trivial
    · exact h
  | timer g op w es =>
    simp only []
    split
    · have h2 := timer_ge (by assumption)
      exact Nat.le_trans h h2
    · exact h
    · trivial
    · trivial
  | alone g on w es => exact h
  | newcoro g c d w es => exact h
  | coroswitch g c ex w es =>
    simp only []
    split
    · exact h
    · exact h
    · trivial
  | collect g w es => exact (look_ge _ _ _ _).le h
  | watch g w es => exact h
  | ended o w es => trivial
theorem askOn_ge (P : Program) (m : Machine) : Mv m.world.drawn (askOn P m) := by
  unfold askOn
  simp only []
  split
  · trivial
  have h0 := run_ok (by assumption)
  split
  · exact (serve_ge _ _ _).le h0
  split
  · split
    · exact h0
    · split
      · exact h0
      · split
        · trivial
        · trivial
  · split
    · split
      · trivial
      · have h1 := Nat.le_trans h0 (run_ok (by assumption))
        split
        · exact h1
        · split
          · trivial
          · exact Nat.le_trans h1 (run_ok (by assumption))
    · split
      · trivial
      · have h1 := Nat.le_trans h0 (run_ok (by assumption))
        split
        · trivial
        · have h2 := Nat.le_trans h1 (run_ok (by assumption))
          split
          · exact h2
          · split
            · trivial
            · exact Nat.le_trans h2 (run_ok (by assumption))
      · have h1 := Nat.le_trans h0 (run_ok (by assumption))
        exact h1
      · have h1 := Nat.le_trans h0 (run_ok (by assumption))
        split
        · trivial
        · rename_i h5
          have h6 := run_ok h5
          have h2 := Nat.le_trans h1 h6
          split
          · exact h2
          · split
            · trivial
            · exact Nat.le_trans h2 (run_ok (by assumption))
theorem ask_ge' (P : Program) (m : Machine) : Mv m.world.drawn (ask P m) := by
  unfold ask
  split
  · split
    · trivial
    · have h9 := run_ok (by assumption)
      have h8 := (look_ge P m.gs m.rest _).le h9
      split
      · rename_i h7
        rw [h7] at h8
        exact (askOn_ge _ _).le h8
      · exact h8
    · have h9 := run_ok (by assumption)
      exact (askOn_ge _ _).le h9
  · exact askOn_ge _ _
theorem move_ge (P : Program) (m : Machine) : Mv m.world.drawn (move P m) := by
  unfold move
  repeat' first
    | trivial
    | exact Nat.le_refl _
    | exact ask_ge' P m
    | exact ask_ge' P { m with rest := { m.rest with slice := none } }
    | split
theorem step_ge (P : Program) (m : Machine) : Ss m.world.drawn (step P m) := by
  unfold step stepT
  have h := move_ge P m
  generalize move P m = v at h ⊢
  cases v with
  | goroutine m2 i => exact (runT_ge P m2 i true).le h
  | machine s ops => exact h
theorem runN_ge (P : Program) : ∀ (n : Nat) (m m' : Machine), runN P n m = .next m' → m.world.drawn ≤ m'.world.drawn
  | 0, m, m', h => by
    cases h; exact Nat.le_refl _
  | n + 1, m, m', h => by
    unfold runN at h
    have h2 := step_ge P m
    split at h
    · rename_i m2 h3
      rw [h3] at h2
      exact Nat.le_trans h2 (runN_ge P n _ m' h)
    · rename_i h3
      rw [h] at h2
      exact h2
theorem calls_ge {P : Program} {f : FuncId} {args : Array Value} {w : World} {R : Ending → World → Prop} (h : Calls P f args w R) (hr : ∀ e w', R e w' → ∃ v, e = .returned v) : Calls P f args w fun e w' => R e w' ∧ w.drawn ≤ w'.drawn := by
  intro cs
  obtain ⟨e, w', fr, h1, h2, h3, h4⟩ := h cs
  refine ⟨e, w', fr, ⟨h1, ?_⟩, h2, h3, h4⟩
  obtain ⟨v, rfl⟩ := hr e w' h1
  obtain ⟨n, hn⟩ := h2
  exact runN_ge P n _ _ hn
end Mo
end Go.Proofs.YtpafkniapacfdaaGreatDoor


namespace Go.Proofs
open Go.Shelf
def Tryz.sortMods_ren : Go.Shelf.Ren := ⟨fun | 6 => 95 | 15 => 130 | 14 => 129 | 28 => 175 | 29 => 176 | 20 => 167 | 21 => 168 | 22 => 169 | 23 => 170 | 24 => 171 | 25 => 172 | 26 => 173 | 27 => 174 | 46 => 215 | 47 => 216 | 48 => 217 | 49 => 218 | 50 => 219 | 57 => 247 | n => n, fun | 22 => 23 | 24 => 42 | 25 => 152 | 3 => 3 | 39 => 136 | 0 => 0 | 53 => 24 | 55 => 122 | 4 => 4 | 46 => 229 | 45 => 228 | 50 => 233 | 5 => 5 | 9 => 9 | 66 => 259 | 70 => 263 | 76 => 278 | 77 => 92 | n => n, fun | n => n⟩
theorem Tryz.sortMods : Go.Proofs.SlLaysF0.n6 Tryz.prog Tryz.sortMods_ren := {
  mixed := by kernel_rfl
  f6 := ⟨Tryz.f95.name, by decide, Tryz.func95.trans (congrArg some (by kernel_rfl))⟩
  f14 := ⟨Tryz.f129.name, by decide, Tryz.func129.trans (congrArg some (by kernel_rfl))⟩
  f15 := Tryz.func130.trans (congrArg some (by kernel_rfl))
  f20 := ⟨Tryz.f167.name, by decide, Tryz.func167.trans (congrArg some (by kernel_rfl))⟩
  f21 := ⟨Tryz.f168.name, by decide, Tryz.func168.trans (congrArg some (by kernel_rfl))⟩
  f22 := ⟨Tryz.f169.name, by decide, Tryz.func169.trans (congrArg some (by kernel_rfl))⟩
  f23 := ⟨Tryz.f170.name, by decide, Tryz.func170.trans (congrArg some (by kernel_rfl))⟩
  f24 := ⟨Tryz.f171.name, by decide, Tryz.func171.trans (congrArg some (by kernel_rfl))⟩
  f25 := ⟨Tryz.f172.name, by decide, Tryz.func172.trans (congrArg some (by kernel_rfl))⟩
  f26 := ⟨Tryz.f173.name, by decide, Tryz.func173.trans (congrArg some (by kernel_rfl))⟩
  f27 := ⟨Tryz.f174.name, by decide, Tryz.func174.trans (congrArg some (by kernel_rfl))⟩
  f28 := Tryz.func175.trans (congrArg some (by kernel_rfl))
  f29 := Tryz.func176.trans (congrArg some (by kernel_rfl))
  f46 := ⟨Tryz.f215.name, by decide, Tryz.func215.trans (congrArg some (by kernel_rfl))⟩
  f47 := Tryz.func216.trans (congrArg some (by kernel_rfl))
  f48 := Tryz.func217.trans (congrArg some (by kernel_rfl))
  f49 := ⟨Tryz.f218.name, by decide, Tryz.func218.trans (congrArg some (by kernel_rfl))⟩
  f50 := ⟨Tryz.f219.name, by decide, Tryz.func219.trans (congrArg some (by kernel_rfl))⟩
  f57 := ⟨Tryz.f247.name, by decide, Tryz.func247.trans (congrArg some (by kernel_rfl))⟩
  t0 := Tryz.underlying0
  a0 := Tryz.isAgg0
  z0 := Tryz.sizeOf0
  v0 := Tryz.zeroValue0
  t3 := Tryz.underlying3
  a3 := Tryz.isAgg3
  z3 := Tryz.sizeOf3
  v3 := Tryz.zeroValue3
  t4 := Tryz.underlying4
  a4 := Tryz.isAgg4
  z4 := Tryz.sizeOf4
  v4 := Tryz.zeroValue4
  t5 := Tryz.underlying5
  a5 := Tryz.isAgg5
  z5 := Tryz.sizeOf5
  v5 := Tryz.zeroValue5
  t9 := Tryz.underlying9
  a9 := Tryz.isAgg9
  z9 := Tryz.sizeOf9
  v9 := Tryz.zeroValue9
  t22 := Tryz.underlying23
  a22 := Tryz.isAgg23
  z22 := Tryz.sizeOf23
  v22 := Tryz.zeroValue23
  t25 := Tryz.underlying152
  a25 := Tryz.isAgg152
  z25 := Tryz.sizeOf152
  v25 := Tryz.zeroValue152
  t39 := Tryz.underlying136
  a39 := Tryz.isAgg136
  z39 := Tryz.sizeOf136
  v39 := Tryz.zeroValue136
  t45 := Tryz.underlying228
  a45 := Tryz.isAgg228
  z45 := Tryz.sizeOf228
  v45 := Tryz.zeroValue228
  t46 := Tryz.underlying229
  a46 := Tryz.isAgg229
  z46 := Tryz.sizeOf229
  v46 := Tryz.zeroValue229
  t50 := Tryz.underlying233
  a50 := Tryz.isAgg233
  z50 := Tryz.sizeOf233
  v50 := Tryz.zeroValue233
  t53 := Tryz.underlying24
  a53 := Tryz.isAgg24
  z53 := Tryz.sizeOf24
  v53 := Tryz.zeroValue24
  t55 := Tryz.underlying122
  a55 := Tryz.isAgg122
  z55 := Tryz.sizeOf122
  v55 := Tryz.zeroValue122
  t66 := Tryz.underlying259
  a66 := Tryz.isAgg259
  z66 := Tryz.sizeOf259
  v66 := Tryz.zeroValue259
  t70 := Tryz.underlying263
  a70 := Tryz.isAgg263
  z70 := Tryz.sizeOf263
  v70 := Tryz.zeroValue263
  t76 := Tryz.underlying278
  a76 := Tryz.isAgg278
  z76 := Tryz.sizeOf278
  v76 := Tryz.zeroValue278
  t77 := Tryz.underlying92
  a77 := Tryz.isAgg92
  z77 := Tryz.sizeOf92
  v77 := Tryz.zeroValue92 }
end Go.Proofs


namespace Go.Proofs.YtpafkniapacfdaaGreatDoor
open Go.ChangeShapes Go.WideShapes Go.ChangeAt Go.RowKit
namespace Ve
theorem wrap_and_shaped {H : Type} {enc : TypeId × Value → H} {a : Assume} {C : Checked} {os : Go.Os} {f : FuncId} {fn : Func} {s : ChangeSpec} {conds : List PathCond} {apart fresh handsOn again : Bool} {X : World → Array Value → Prop}
    (hX : ∀ (w w' : World) (args : Array Value), w.heap = w'.heap → X w args → X w' args)
    (own : ownKnob C.prog.godebug = none) (started : os.Started) (noInit : C.prog.inits.idxOf? f = none) (hfn : C.prog.funcs[f]? = some fn)
    (witness : ∃ (w : World) (tape : Tape) (i : Input), w.os = os ∧ (w.forCall tape i).Shaped C.prog ∧ i.vars = [] ∧ Input.okWide C.prog (w.forCall tape i) .any w.heap.size f i ∧
      ((s.pre enc C.prog fn conds apart (w.forCall tape i).memory i.args ∧ X (w.forCall tape i).memory i.args) ∧ sizedMet enc C.prog fn (OpenSpec.ofChange s) apart (w.forCall tape i).memory i.args) ∧ a.holds C.prog (lone (Frame.enter C.prog f i.args .normal) [] (w.forCall tape i)))
    (contract : ∀ (W : World) (base : Nat) (args : Array Value) (ds gs : List (DataW H)) (before : List MemPlace),
      (∀ (j : Nat) t v, fn.params[j]? = some t → args[j]? = some v → Value.okWide C.prog W .any base t v) →
      DataW.Whole enc C.prog fn.params.toList s.vars apart W args.toList ds gs before → X W args → W.ShapedOpen C.prog →
      Calls C.prog f args W fun e W' => ∃ v, e = .returned v ∧ s.post enc C.prog fn apart fresh handsOn again W args v W') :
    ReturnsInHanded a C os f .any (fun w args => (s.pre enc C.prog fn conds apart w args ∧ X w args) ∧ sizedMet enc C.prog fn (OpenSpec.ofChange s) apart w args) (s.post enc C.prog fn apart fresh handsOn again) := by
  refine returnsInHanded_of_calls own started noInit witness ?_
  intro w tape i _ hsh _ hok hpre _
  obtain ⟨_, _, _, fn', hfn', _, _, _, _, hval⟩ := hok
  have e : fn' = fn := Option.some.inj (hfn'.symm.trans hfn)
  subst e
  obtain ⟨⟨⟨ds, gs, before, hw, _⟩, hx⟩, _⟩ := hpre
  have hw' := DataW.Whole.of_heap (w' := w.forCall tape i) (by rfl) hw
  refine (contract (w.forCall tape i) w.heap.size i.args ds gs before hval hw' (hX _ _ _ (by rfl) hx) hsh).mono fun e W' ⟨v, he, hp⟩ => ?_
  subst he
  exact ChangeSpec.post_blind hp
theorem laidMet_over {P : Program} {w0 : World} {laid : List (String × DataW Unit)} (args : Array Value)
    (hf : w0.layFits P laid [] = true) (hi : w0.layIfaces P laid (w0.layVars P laid) = true) :
    laidMet P laid ((w0.layVars P laid).forCall (fun _ _ => 0) ⟨#[], args, []⟩).memory := by
  have e1 : (laid.filter fun x => (laid.map (·.1)).contains x.1) = laid := List.filter_eq_self.2 fun x hx => List.contains_iff_mem.2 (List.mem_map.2 ⟨x, hx, rfl⟩)
  have e2 : (laid.filter fun x => !(laid.map (·.1)).contains x.1) = [] := List.filter_eq_nil_iff.2 fun x hx => by rw [List.contains_iff_mem.2 (List.mem_map.2 ⟨x, hx, rfl⟩)]; simp
  have h : laidMet P laid (w0.layVars P laid) := laidMet_layVars (w0 := w0) (laid.map (·.1)) [] (by rw [e1]) (by rw [e1]; exact hf) (by rw [e1]; exact hi) (by rw [e2]; exact LaidIn.none)
  exact h.of_heap (by simp [World.memory, World.forCall, Input.heap])
end Ve
end Go.Proofs.YtpafkniapacfdaaGreatDoor


namespace Go.Proofs.YtpafkniapacfdaaGreatDoor
namespace Er
open Go
theorem sens_rest {P : Program} {nm : String} {W : World} {ti tp te ts : TypeId} {ms : Array (String × TypeId)} {f : Field}
    (hi : P.underlying ti = some (.interface ms)) (hrow : ∀ u, P.typeName? 3 u = some nm → u = tp)
    (hp : P.underlying tp = some (.pointer te)) (he : P.underlying te = some (.struct #[f])) (hft : f.type = ts) (hfo : f.offset = 0) (hs : P.underlying ts = some .string) (hc : P.cellsOf te = 1) (hcs : P.cellsOf ts = 1) (rest : List (String × DataW Unit)) :
    ∀ (ns : List (String × Nat × List UInt8)) (ps : List MemPlace),
      DataW.LaidVars P W ((ns.map fun x => (x.1, DataW.iface nm (.ptr (.agg [.lit (.string x.2.2)])))) ++ rest) ps →
      (∀ x, x ∈ ns → P.globalNamed x.1 = some x.2.1 ∧ (P.globals[x.2.1]?).map (·.type) = some ti) →
      (∀ b off, MemPlace.cell b off ∈ ps → (∃ c t, W.heap[b]? = some (.cells c t (0, 0))) ∧ ∀ u v, W.cell? ⟨b, off, none⟩ = some (.iface u v) → Value.okWide P W .any 0 u v) →
      ∃ al : List Addr, al.length = ns.length ∧ (al.map fun a => MemPlace.cell a.block a.off).Sublist ps ∧
        ∀ (i : Nat) (x : String × Nat × List UInt8) (a : Addr), ns[i]? = some x → al[i]? = some a →
          W.cell? ⟨x.2.1, 0, none⟩ = some (.iface tp (.pointer (some a))) ∧ ∃ c t, W.heap[a.block]? = some (.cells c t (0, 0)) := by
  intro ns
  induction ns with
  | nil =>
    intro ps _ _ _
    exact ⟨[], rfl, List.nil_sublist _, fun i x a h => by simp at h⟩
  | cons n r ih =>
    intro ps hl hg hr
    obtain ⟨g, t, cs, fuel, p, q, hg0, ht0, hv0, hd0, hq, e0⟩ := hl
    obtain ⟨k1, k2⟩ := hg n (List.mem_cons_self)
    obtain rfl := Option.some.inj (k1.symm.trans hg0)
    obtain rfl := Option.some.inj (k2.symm.trans ht0)
    subst e0
    obtain ⟨l0⟩ := cs
    have ok0 : ∀ u v, l0 = [.iface u v] → Value.okWide P W .any 0 u v := fun u v e => by
      subst e
      exact (hr n.2.1 0 (by simp [MemPlace.row])).2 u v (by simpa using World.var?_cell hg0 hv0 0)
    obtain ⟨a0, s0, rfl, hc0, hs0, hz0, rfl⟩ := errorString_of_trod hi hrow hp he hft hfo hs hc hcs hd0 ok0
    obtain ⟨al, hlen, hsub, hall⟩ := ih q hq (fun x hx => hg x (List.mem_cons_of_mem _ hx)) (fun b off hm => hr b off (by simp [hm]))
    refine ⟨a0 :: al, by simp [hlen], ?_, ?_⟩
    · simp only [List.map_cons, MemPlace.row, List.range_one, List.map_nil, Nat.add_zero]
      exact List.Sublist.cons _ (List.Sublist.cons_cons _ hsub)
    · intro i x a hx ha
      cases i with
      | zero =>
        simp only [List.getElem?_cons_zero, Option.some.injEq] at hx ha
        subst hx; subst ha
        exact ⟨by simpa using World.var?_cell hg0 hv0 0, (hr a0.block a0.off (by simp [MemPlace.row])).1⟩
      | succ i =>
        simp only [List.getElem?_cons_succ] at hx ha
        exact hall i x a hx ha
theorem unlike {al : List Addr} {ps : List MemPlace} (hs : (al.map fun a => MemPlace.cell a.block a.off).Sublist ps) (hn : ps.Nodup) {i j : Nat} (hi : i < al.length) (hj : j < al.length) (hij : i ≠ j) : al[i] ≠ al[j] := by
  have h1 : (al.map fun a => MemPlace.cell a.block a.off).Nodup := hs.nodup hn
  intro e
  rw [List.Nodup, List.pairwise_iff_getElem] at h1
  rcases Nat.lt_or_gt_of_ne hij with h | h
  · exact h1 i j (by simpa using hi) (by simpa using hj) h (by simp [e])
  · exact h1 j i (by simpa using hj) (by simpa using hi) h (by simp [e])
end Er
end Go.Proofs.YtpafkniapacfdaaGreatDoor
