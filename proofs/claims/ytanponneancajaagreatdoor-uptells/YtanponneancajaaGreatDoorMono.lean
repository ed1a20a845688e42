/-
  How often the tape was asked never grows less: no step of the machine takes a draw back.
-/
import Derived.Calls
namespace Go.Proofs.YtanponneancajaaGreatDoor
namespace Mo

def Ge {α : Type} (d : Nat) : Result α → Prop
  | .ok _ w => d ≤ w.drawn
  | .halt _ w => d ≤ w.drawn
theorem Ge.le {α : Type} {d d' : Nat} {r : Result α} (h : Ge d r) (hd : d' ≤ d) : Ge d' r := by
  cases r <;> exact Nat.le_trans hd h
theorem ask_ge {α : Type} : ∀ (a : Ask α) (w : World), w.drawn ≤ (w.ask a).2.drawn := fun a => by
  induction a with
  | done a => intro w; exact Nat.le_refl _
  | ask what range k ih =>
    intro w
    unfold World.ask
    dsimp only
    split
    · exact ih 0 w
    · exact Nat.le_trans (Nat.le_succ _) (ih _ { w with drawn := w.drawn + 1 })
theorem sys_ge (w : World) (c : Sys) : w.drawn ≤ (w.sys c).2.drawn := by
  have h := ask_ge (Kernel.perform c w.os) w
  unfold World.sys
  split
  · exact Nat.le_refl _
  · rename_i h2
    rw [h2] at h
    exact h
theorem view_ge {P : Program} {w : World} {at_ : Addr} {u : TypeId} {k : Addr} {v : Value} {b : Bool} {r : World × List Addr} (h : w.viewStore P at_ u k v b = .ok r) : r.1.drawn = w.drawn := by
  unfold World.viewStore at h
  simp only [bind, Except.bind, pure, Except.pure] at h
  repeat' split at h
  all_goals first
    | (cases h; rfl)
    | cases h
theorem far_ge {P : Program} {w : World} {a : Addr} {v : Value} {b : Bool} {r : World × List Addr} (h : w.farStore P a v b = .ok r) : r.1.drawn = w.drawn := by
  unfold World.farStore at h
  split at h
  · split at h
    · rename_i h2
      cases h
      exact view_ge h2
    · cases h
  · cases h
theorem freeze_ge (w : World) (a : Addr) (n : Nat) : (w.freeze a n).drawn = w.drawn := by
  unfold World.freeze
  split <;> rfl
theorem run_ge {α : Type} (P : Program) (s : Sem α) : ∀ w : World, Ge w.drawn (s.run P w) := by
  induction s with
  | pure a => intro w; exact Nat.le_refl _
  | load m a k ih =>
    intro w
    unfold Sem.run
    split
    · exact ih _ w
    · split
      · exact ih _ w
      · exact Nat.le_refl _
  | store m a v k ih =>
    intro w
    cases v
    case agg => exact Nat.le_refl _
    case tuple => exact Nat.le_refl _
    all_goals
      simp only [Sem.run]
      split
      · split
        · exact Nat.le_refl _
        · exact ih _
      · split
        · rename_i h2
          have := far_ge h2
          rw [← this]
          exact ih _
        · exact Nat.le_refl _
  | new o k ih => intro w; exact ih _ { w with heap := w.heap.push o }
  | shape r k ih => intro w; exact ih _ w
  | freeze a n k ih => intro w; have := ih (w.freeze a n); rw [freeze_ge] at this; exact this
  | frozen a k ih => intro w; exact ih _ w
  | getObj r k ih =>
    intro w
    unfold Sem.run
    split
    · exact Nat.le_refl _
    · exact ih _ w
    · exact Nat.le_refl _
  | setObj r o k ih =>
    intro w
    unfold Sem.run
    split
    · exact Nat.le_refl _
    · exact ih { w with heap := w.heap.setIfInBounds r o }
    · exact Nat.le_refl _
  | choose q k ih =>
    intro w
    unfold Sem.run
    split
    · exact ih _ w
    · exact (ih _ { w with drawn := w.drawn + 1 }).le (Nat.le_succ _)
  | sys c k ih => intro w; exact (ih _ _).le (sys_ge w c)
  | program k ih => intro w; exact ih _ w
  | mark m k ih => intro w; exact ih w
  | halt h => intro w; exact Nat.le_refl _
theorem run_ok {α : Type} {P : Program} {s : Sem α} {w w' : World} {a : α} (h : s.run P w = .ok a w') : w.drawn ≤ w'.drawn := by
  have := run_ge P s w
  rw [h] at this
  exact this
theorem run_ha {α : Type} {P : Program} {s : Sem α} {w w' : World} {a : Halt} (h : s.run P w = .halt a w') : w.drawn ≤ w'.drawn := by
  have := run_ge P s w
  rw [h] at this
  exact this
/-- A goroutine's step. -/
def Gs (d : Nat) : GStep → Prop
  | .go _ w _ => d ≤ w.drawn
  | .comm _ _ _ _ w _ => d ≤ w.drawn
  | .spawn _ _ w _ => d ≤ w.drawn
  | .count _ w _ => d ≤ w.drawn
  | .timer _ _ w _ => d ≤ w.drawn
  | .alone _ _ w _ => d ≤ w.drawn
  | .newcoro _ _ _ w _ => d ≤ w.drawn
  | .coroswitch _ _ _ w _ => d ≤ w.drawn
  | .collect _ w _ => d ≤ w.drawn
  | .watch _ w _ => d ≤ w.drawn
  | .ended _ _ _ => True
theorem Gs.le {d d' : Nat} {s : GStep} (h : Gs d s) (hd : d' ≤ d) : Gs d' s := by
  cases s <;> first | trivial | exact Nat.le_trans hd h
theorem Gs.after {d : Nat} {es : Array Event} {s : GStep} (h : Gs d s) : Gs d (s.after es) := by
  cases s <;> exact h
def Ss (d : Nat) : Stepped → Prop
  | .next m => d ≤ m.world.drawn
  | .ended _ _ => True
theorem Ss.le {d d' : Nat} {s : Stepped} (h : Ss d s) (hd : d' ≤ d) : Ss d' s := by
  cases s <;> first | trivial | exact Nat.le_trans hd h
def Mv (d : Nat) : Move → Prop
  | .goroutine m _ => d ≤ m.world.drawn
  | .machine s _ => Ss d s
theorem Mv.le {d d' : Nat} {s : Move} (h : Mv d s) (hd : d' ≤ d) : Mv d' s := by
  cases s
  · exact Nat.le_trans hd h
  · exact Ss.le h hd
theorem dieOf_ge (fr : Frame) (l : List ByteArray) (m : String) (b : Bool) (w : World) : Gs w.drawn (dieOf fr l m b w) := Nat.le_refl _
theorem endThrow_ge (fr : Frame) (m : String) (w : World) : Gs w.drawn (endThrow fr m w) := Nat.le_refl _
theorem endWith_ge (w : World) (fd : Nat) (t : ByteArray) (o : Outcome) (d : Nat) : Gs d (endWith w fd t o) := by
  unfold endWith
  simp only []
  repeat' first
    | trivial
    | split
theorem endPrinting_ge (P : Program) (fr : Frame) (v : Value) (w : World) : Gs w.drawn (endPrinting P fr v w) := by
  unfold endPrinting
  simp only []
  repeat' first
    | trivial
    | exact Nat.le_refl _
    | split
theorem endFatal_ge (P : Program) (fr : Frame) (cs : List Frame) (dy : Option Dying) (m : String) (w : World) : Gs w.drawn (endFatal P fr cs dy m w) := by
  unfold endFatal
  extract_lets
  split
  · exact run_ok (by assumption)
  · trivial
  · trivial
theorem writeOn_ge (P : Program) (fr : Frame) (d : Dying) (f : Fatal) (w : World) : Gs w.drawn (writeOn P fr d f w) := by
  unfold writeOn
  extract_lets
  split
  · trivial
  · extract_lets
    rw [Sem.runT_eq]
    generalize hr : Sem.run P _ w = r
    cases r with
    | ok a w' => exact run_ok hr
    | halt a w' =>
      cases a <;> first | trivial | exact run_ha hr
theorem doReturn_ge (P : Program) (b : Bool) (fr : Frame) (cs : List Frame) (dy : Option Dying) (v : Value) (w : World) : Gs w.drawn (doReturn P b fr cs dy v w) := by
  unfold doReturn
  simp only []
  repeat' first
    | trivial
    | exact Nat.le_refl _
    | split
theorem die_ge (P : Program) (fr : Frame) (d : Dying) (w : World) : Gs w.drawn (die P fr d w) := by
  unfold die
  simp only [Sem.runT_eq]
  repeat' first
    | trivial
    | exact Nat.le_refl _
    | exact writeOn_ge _ _ _ _ _
    | exact endWith_ge _ _ _ _ _
    | exact run_ok (by assumption)
    | refine Gs.after ?_
    | exact (endPrinting_ge _ _ _ _).le (run_ha (by assumption))
    | split
theorem callDeferred_ge (P : Program) (fr : Frame) (cs : List Frame) (dy : Option Dying) (d : Deferred) (w : World) : Gs w.drawn (callDeferred P fr cs dy d w) := by
  unfold callDeferred
  simp only [Sem.runT_eq]
  generalize hr : Sem.run P (invoke d.target d.args) w = r
  cases r with
  | ok a w' =>
    have h2 := run_ok hr
    cases a
    all_goals try dsimp only
    all_goals repeat' first
      | trivial
      | exact h2
      | refine Gs.after ?_
      | (cases ‹Result.ok _ _ = Result.ok _ _› <;> first | exact h2 | trivial)
      | split
  | halt a w' =>
    have h2 := run_ha hr
    cases a
    all_goals try dsimp only
    all_goals repeat' first
      | trivial
      | exact h2
      | refine Gs.after ?_
      | exact (endFatal_ge _ _ _ _ _ _).le h2
      | exact (endThrow_ge _ _ _).le h2
      | split
theorem unwind_ge (P : Program) (b : Bool) (fr : Frame) (cs : List Frame) (dy : Option Dying) (w : World) : Gs w.drawn (unwind P b fr cs dy w) := by
  unfold unwind
  simp only [Sem.runT_eq]
  repeat' first
    | trivial
    | exact Nat.le_refl _
    | exact callDeferred_ge _ _ _ _ _ _
    | exact run_ok (by assumption)
    | refine Gs.after ?_
    | exact endPrinting_ge _ _ _ _
    | exact doReturn_ge _ _ _ _ _ _ _
    | exact (doReturn_ge _ _ _ _ _ _ _).le (run_ok (by assumption))
    | split
theorem early_ge (P : Program) (fr : Frame) (cs : List Frame) (dy : Option Dying) (g : Nat) (w : World) : Gs w.drawn (early P fr cs dy g w) := by
  unfold early
  simp only []
  repeat' first
    | trivial
    | exact Nat.le_refl _
    | (have h9 := run_ok ‹Sem.run P (choose (Question.early g)) w = Result.ok _ _›; exact h9)
    | split
theorem apply_ge (P : Program) (l : Bool) (fr : Frame) (cs : List Frame) (dy : Option Dying) (s : Sem Next) (w : World) : Gs w.drawn (stepG.apply P l fr cs dy s w) := by
  unfold stepG.apply
  have e : (if l = true then s.runT P w #[] else (s.run P w, #[])) = (s.run P w, (if l = true then s.runT P w #[] else (s.run P w, #[])).2) := by
    cases l
    · rfl
    · simp
  simp only []
  rw [e]
  generalize (if l = true then s.runT P w #[] else (s.run P w, #[])).2 = es
  generalize hr : Sem.run P s w = r
  refine Gs.after ?_
  cases r with
  | ok a w' =>
    have h2 := run_ok hr
    cases a
    all_goals try dsimp only
    all_goals repeat' first
      | trivial
      | exact h2
      | exact (endThrow_ge _ _ _).le h2
      | split
  | halt a w' =>
    have h2 := run_ha hr
    cases a
    all_goals try dsimp only
    all_goals repeat' first
      | trivial
      | exact h2
      | exact (endFatal_ge _ _ _ _ _ _).le h2
      | exact (endThrow_ge _ _ _).le h2
      | exact (early_ge _ _ _ _ _ _).le h2
      | (cases ‹Result.halt _ _ = Result.halt _ _› <;> first | exact h2 | exact (early_ge _ _ _ _ _ _).le h2 | trivial)
      | split
theorem oper_ge (P : Program) (l : Bool) (fr : Frame) (cs : List Frame) (dy : Option Dying) (w : World) : Gs w.drawn (stepG.oper P l fr cs dy w) := by
  unfold stepG.oper
  repeat' first
    | trivial
    | exact apply_ge _ _ _ _ _ _ _
    | split
theorem exec_ge (P : Program) (m l : Bool) (fr : Frame) (cs : List Frame) (dy : Option Dying) (w : World) : Gs w.drawn (stepG.exec P m l fr cs dy w) := by
  unfold stepG.exec
  simp only [Sem.runT_eq, Option.elim]
  split
  all_goals try exact Nat.le_refl _
  all_goals repeat' first
    | trivial
    | exact Nat.le_refl _
    | exact apply_ge _ _ _ _ _ _ _
    | exact oper_ge _ _ _ _ _ _
    | exact (doReturn_ge _ _ _ _ _ _ _).le (run_ok (by assumption))
    | exact (apply_ge _ _ _ _ _ _ _).le (run_ok (by assumption))
    | refine Gs.after ?_
    | (have h9 := run_ok (by assumption); exact h9)
    | (have h9 := run_ha (by assumption); exact h9)
    | exact run_ok (by assumption)
    | exact run_ha (by assumption)
    | split
theorem stepG_ge (P : Program) (m l : Bool) (g : Goroutine) (w : World) : Gs w.drawn (stepG P m g w l) := by
  unfold stepG
  repeat' first
    | exact die_ge _ _ _ _
    | exact exec_ge _ _ _ _ _ _ _
    | exact unwind_ge _ _ _ _ _ _
    | split
theorem waiting_ge {rest : Rest} {cases : Array CommCase} {w w' : World} (h : waitingAt rest cases w = some w') : w.drawn ≤ w'.drawn := by
  unfold waitingAt at h
  split at h
  · split at h
    · cases h; exact Nat.le_refl _
    · cases h
  · cases h; exact Nat.le_refl _
theorem comm_ge (P : Program) (rest : Rest) (gs : Array Goroutine) (i : Nat) (g : Goroutine) (cases : Array CommCase) (blocking : Bool) (shape : CommShape) (w : World) : Ss w.drawn (communicate P rest gs i g cases blocking shape w).1 := by
  unfold communicate
  extract_lets
  split
  · trivial
  split
  · split
    · split
      · exact waiting_ge (by assumption)
      · trivial
    · exact Nat.le_refl _
  · split
    · trivial
    · have h9 := run_ok (by assumption)
      try extract_lets
      repeat' first
        | trivial
        | exact h9
        | exact Nat.le_trans h9 (run_ok (by assumption))
        | exact Nat.le_trans h9 (run_ha (by assumption))
        | (have h8 := Nat.le_trans h9 (run_ok (by assumption)); exact h8)
        | split
theorem look_ge (P : Program) (gs : Array Goroutine) (rest : Rest) (w : World) : Ss w.drawn (look P gs rest w) := by
  unfold look
  simp only []
  repeat' first
    | trivial
    | exact run_ok (by assumption)
    | (have h9 := run_ok (by assumption); exact h9)
    | split
theorem serve_ge (P : Program) (m : Machine) (k : Nat) : Ss m.world.drawn (serve P m k) := by
  unfold serve
  simp only []
  repeat' first
    | trivial
    | exact Nat.le_refl _
    | split
theorem drain_ge (w : World) (c : Nat) : w.drawn ≤ (drain w c).2.drawn := by
  unfold drain
  split <;> exact Nat.le_refl _
theorem retime_ge (m : Machine) (k : Nat) (t : Timer) (a b : Nat) : m.world.drawn ≤ (retime m k t a b).2.world.drawn := by
  unfold retime
  cases t.chan with
  | none => exact Nat.le_refl _
  | some c => exact drain_ge m.world c
theorem named_ge {m m0 : Machine} {var : Addr} {f : Nat → Timer → Value × Machine} {r : Value × Machine} (hf : ∀ k t, m0.world.drawn ≤ (f k t).2.world.drawn) (h : timerOp.named m var f = .ok r) : m0.world.drawn ≤ r.2.world.drawn := by
  unfold timerOp.named at h
  split at h
  · cases h; exact hf _ _
  · cases h
theorem timer_ge {m : Machine} {op : TimerOp} {r : Value × Machine} (h : timerOp m op = .ok r) : m.world.drawn ≤ r.2.world.drawn := by
  cases op with
  | new t =>
    unfold timerOp at h
    simp only [] at h
    split at h
    · cases h; exact Nat.le_refl _
    · split at h
      · split at h
        · cases h
        · cases h; exact Nat.le_refl _
      · cases h
  | stop var => exact named_ge (fun k t => retime_ge m k t _ _) h
  | reset var a b =>
    unfold timerOp at h
    simp only [] at h
    split at h
    · rename_i m2 h2
      have e : m.world.drawn ≤ m2.world.drawn := by
        unfold timerOp.opened at h2
        split at h2
        · split at h2
          · cases h2; exact Nat.le_refl _
          · cases h2
        · cases h2; exact Nat.le_refl _
      exact named_ge (fun k t => Nat.le_trans e (retime_ge m2 k t _ _)) h
    · cases h
  | deadline ctx a b c =>
    unfold timerOp at h
    simp only [] at h
    cases h
    exact Nat.le_refl _
theorem runT_ge (P : Program) (m : Machine) (i : Nat) (b : Bool) : Ss m.world.drawn (runT P m i b).1 := by
  simp only [runT]
  generalize m.gs.swapAt! _ _ = gg
  have h := stepG_ge P (i == 0) b gg.1 m.world
  generalize stepG P _ gg.1 m.world b = s at h ⊢
  cases s with
  | go g w es => exact h
  | comm g cs bl sh w es => exact (comm_ge _ _ _ _ _ _ _ _ _).le h
  | spawn g c w es => exact h
  | count g w es =>
    simp only []
    split
    · trivial
    · exact h
  | timer g op w es =>
    simp only []
    split
    · have h2 := timer_ge (by assumption)
      exact Nat.le_trans h h2
    · exact h
    · trivial
    · trivial
  | alone g on w es => exact h
  | newcoro g c d w es => exact h
  | coroswitch g c ex w es =>
    simp only []
    split
    · exact h
    · exact h
    · trivial
  | collect g w es => exact (look_ge _ _ _ _).le h
  | watch g w es => exact h
  | ended o w es => trivial
theorem askOn_ge (P : Program) (m : Machine) : Mv m.world.drawn (askOn P m) := by
  unfold askOn
  simp only []
  split
  · trivial
  have h0 := run_ok (by assumption)
  split
  · exact (serve_ge _ _ _).le h0
  split
  · split
    · exact h0
    · split
      · exact h0
      · split
        · trivial
        · trivial
  · split
    · split
      · trivial
      · have h1 := Nat.le_trans h0 (run_ok (by assumption))
        split
        · exact h1
        · split
          · trivial
          · exact Nat.le_trans h1 (run_ok (by assumption))
    · split
      · trivial
      · have h1 := Nat.le_trans h0 (run_ok (by assumption))
        split
        · trivial
        · have h2 := Nat.le_trans h1 (run_ok (by assumption))
          split
          · exact h2
          · split
            · trivial
            · exact Nat.le_trans h2 (run_ok (by assumption))
      · have h1 := Nat.le_trans h0 (run_ok (by assumption))
        exact h1
      · have h1 := Nat.le_trans h0 (run_ok (by assumption))
        split
        · trivial
        · rename_i h5
          have h6 := run_ok h5
          have h2 := Nat.le_trans h1 h6
          split
          · exact h2
          · split
            · trivial
            · exact Nat.le_trans h2 (run_ok (by assumption))
theorem ask_ge' (P : Program) (m : Machine) : Mv m.world.drawn (ask P m) := by
  unfold ask
  split
  · split
    · trivial
    · have h9 := run_ok (by assumption)
      have h8 := (look_ge P m.gs m.rest _).le h9
      split
      · rename_i h7
        rw [h7] at h8
        exact (askOn_ge _ _).le h8
      · exact h8
    · have h9 := run_ok (by assumption)
      exact (askOn_ge _ _).le h9
  · exact askOn_ge _ _
theorem move_ge (P : Program) (m : Machine) : Mv m.world.drawn (move P m) := by
  unfold move
  repeat' first
    | trivial
    | exact Nat.le_refl _
    | exact ask_ge' P m
    | exact ask_ge' P { m with rest := { m.rest with slice := none } }
    | split
theorem step_ge (P : Program) (m : Machine) : Ss m.world.drawn (step P m) := by
  unfold step stepT
  have h := move_ge P m
  generalize move P m = v at h ⊢
  cases v with
  | goroutine m2 i => exact (runT_ge P m2 i true).le h
  | machine s ops => exact h
theorem runN_ge (P : Program) : ∀ (n : Nat) (m m' : Machine), runN P n m = .next m' → m.world.drawn ≤ m'.world.drawn
  | 0, m, m', h => by
    cases h; exact Nat.le_refl _
  | n + 1, m, m', h => by
    unfold runN at h
    have h2 := step_ge P m
    split at h
    · rename_i m2 h3
      rw [h3] at h2
      exact Nat.le_trans h2 (runN_ge P n _ m' h)
    · rename_i h3
      rw [h] at h2
      exact h2
/-- Of what a call returns with: it has drawn no less. -/
theorem calls_ge {P : Program} {f : FuncId} {args : Array Value} {w : World} {R : Ending → World → Prop} (h : Calls P f args w R) (hr : ∀ e w', R e w' → ∃ v, e = .returned v) : Calls P f args w fun e w' => R e w' ∧ w.drawn ≤ w'.drawn := by
  intro cs
  obtain ⟨e, w', fr, h1, h2, h3, h4⟩ := h cs
  refine ⟨e, w', fr, ⟨h1, ?_⟩, h2, h3, h4⟩
  obtain ⟨v, rfl⟩ := hr e w' h1
  obtain ⟨n, hn⟩ := h2
  exact runN_ge P n _ _ hn
end Mo
end Go.Proofs.YtanponneancajaaGreatDoor
