/-
  Mono ShelfS FileR MvP MvA MvB
-/
import Derived.Test.YtlcffhadobhfkaaGreatDoorMq6
import Derived.Test.YtlcffhadobhfkaaGreatDoorMq3
import Derived.Test.YtlcffhadobhfkaaGreatDoorMq9
import Derived.Test.YtlcffhadobhfkaaGreatDoorMq2
import Derived.Test.YtlcffhadobhfkaaGreatDoorMq18
import Derived.Test.YtlcffhadobhfkaaGreatDoorMq20
import Derived.Test.YtlcffhadobhfkaaGreatDoorMq16
import Derived.Test.YtlcffhadobhfkaaGreatDoorMq34
import Derived.Test.YtlcffhadobhfkaaGreatDoorMq36
import Derived.Test.YtlcffhadobhfkaaGreatDoorMq11
import Derived.Test.YtlcffhadobhfkaaGreatDoorMq23
namespace Go.Proofs.YtlcffhadobhfkaaGreatDoor
namespace Mo
def Ge {α : Type} (d : Nat) : Result α -> Prop
  | .ok _ w=>d <= w.drawn
  | .halt _ w=>d <= w.drawn
theorem Ge.le {α : Type} {d d' : Nat} {r : Result α} (h : Ge d r) (hd : d' <= d) : Ge d' r:=by
  cases r <;> exact Nat.le_trans hd h
theorem ask_ge {α : Type} : ∀ (a : Ask α) (w : World),w.drawn <= (w.ask a).2.drawn:=fun a=>by
  induction a with
  | done a=>intro w; exact Nat.le_refl _
  | ask what range k ih=>
    intro w
    unfold World.ask
    dsimp only
    split
    · exact ih 0 w
    · exact Nat.le_trans (Nat.le_succ _) (ih _ { w with drawn:=w.drawn + 1 })
theorem sys_ge (w : World) (c : Sys) : w.drawn <= (w.sys c).2.drawn:=by
  have h:=ask_ge (Kernel.perform c w.os) w
  unfold World.sys
  split
  · exact Nat.le_refl _
  · rename_i h2
    rw [h2] at h
    exact h
theorem view_ge {P : Program} {w : World} {at_ : Addr} {u : TypeId} {k : Addr} {v : Value} {b : Bool} {r : World × List Addr} (h : w.viewStore P at_ u k v b = .ok r) : r.1.drawn = w.drawn:=by
  unfold World.viewStore at h
  simp only [bind,Except.bind,pure,Except.pure] at h
  repeat' split at h
  all_goals first
    | (cases h; rfl)
    | cases h
theorem far_ge {P : Program} {w : World} {a : Addr} {v : Value} {b : Bool} {r : World × List Addr} (h : w.farStore P a v b = .ok r) : r.1.drawn = w.drawn:=by
  unfold World.farStore at h
  split at h
  · split at h
    · rename_i h2
      cases h
      exact view_ge h2
    · cases h
  · cases h
theorem freeze_ge (w : World) (a : Addr) (n : Nat) : (w.freeze a n).drawn = w.drawn:=by
  unfold World.freeze
  split <;> rfl
theorem run_ge {α : Type} (P : Program) (s : Sem α) : ∀ w : World, Ge w.drawn (s.run P w) := by
  induction s with
  | pure a=>intro w; exact Nat.le_refl _
  | load m a k ih=>
    intro w
    unfold Sem.run
    split
    · exact ih _ w
    · split
      · exact ih _ w
      · exact Nat.le_refl _
  | store m a v k ih =>
    intro w
    cases v
    case agg=>exact Nat.le_refl _
    case tuple=>exact Nat.le_refl _
    all_goals
      simp only [Sem.run]
      split
      · split
        · exact Nat.le_refl _
        · exact ih _
      · split
        · rename_i h2
          have:=far_ge h2
          rw [<- this]
          exact ih _
        · exact Nat.le_refl _
  | new o k ih=>intro w; exact ih _ { w with heap:=w.heap.push o }
  | shape r k ih=>intro w; exact ih _ w
  | freeze a n k ih=>intro w; have:=ih (w.freeze a n); rw [freeze_ge] at this; exact this
  | frozen a k ih=>intro w; exact ih _ w
  | getObj r k ih=>
    intro w
    unfold Sem.run
    split
    · exact Nat.le_refl _
    · exact ih _ w
    · exact Nat.le_refl _
  | setObj r o k ih=>
    intro w
    unfold Sem.run
    split
    · exact Nat.le_refl _
    · exact ih { w with heap:=w.heap.setIfInBounds r o }
    · exact Nat.le_refl _
  | choose q k ih=>
    intro w
    unfold Sem.run
    split
    · exact ih _ w
    · exact (ih _ { w with drawn:=w.drawn + 1 }).le (Nat.le_succ _)
  | sys c k ih=>intro w; exact (ih _ _).le (sys_ge w c)
  | program k ih=>intro w; exact ih _ w
  | mark m k ih=>intro w; exact ih w
  | halt h=>intro w; exact Nat.le_refl _
theorem run_ok {α : Type} {P : Program} {s : Sem α} {w w' : World} {a : α} (h : s.run P w = .ok a w') : w.drawn <= w'.drawn:=by
  have:=run_ge P s w
  rw [h] at this
  exact this
theorem run_ha {α : Type} {P : Program} {s : Sem α} {w w' : World} {a : Halt} (h : s.run P w = .halt a w') : w.drawn <= w'.drawn:=by
  have:=run_ge P s w
  rw [h] at this
  exact this
def Gs (d : Nat) : GStep -> Prop
  | .go _ w _=>d <= w.drawn
  | .comm _ _ _ _ w _=>d <= w.drawn
  | .spawn _ _ w _=>d <= w.drawn
  | .count _ w _=>d <= w.drawn
  | .timer _ _ w _=>d <= w.drawn
  | .alone _ _ w _=>d <= w.drawn
  | .newcoro _ _ _ w _=>d <= w.drawn
  | .coroswitch _ _ _ w _=>d <= w.drawn
  | .collect _ w _=>d <= w.drawn
  | .watch _ w _=>d <= w.drawn
  | .ended _ _ _=>True
theorem Gs.le {d d' : Nat} {s : GStep} (h : Gs d s) (hd : d' <= d) : Gs d' s:=by
  cases s <;> first | trivial | exact Nat.le_trans hd h
theorem Gs.after {d : Nat} {es : Array Event} {s : GStep} (h : Gs d s) : Gs d (s.after es):=by
  cases s <;> exact h
def Ss (d : Nat) : Stepped -> Prop
  | .next m=>d <= m.world.drawn
  | .ended _ _=>True
theorem Ss.le {d d' : Nat} {s : Stepped} (h : Ss d s) (hd : d' <= d) : Ss d' s:=by
  cases s <;> first | trivial | exact Nat.le_trans hd h
def Mv (d : Nat) : Move -> Prop
  | .goroutine m _=>d <= m.world.drawn
  | .machine s _=>Ss d s
theorem Mv.le {d d' : Nat} {s : Move} (h : Mv d s) (hd : d' <= d) : Mv d' s:=by
  cases s
  · exact Nat.le_trans hd h
  · exact Ss.le h hd
theorem endThrow_ge (fr : Frame) (m : String) (w : World) : Gs w.drawn (endThrow fr m w):=Nat.le_refl _
theorem endWith_ge (w : World) (fd : Nat) (t : ByteArray) (o : Outcome) (d : Nat) : Gs d (endWith w fd t o):=by
  unfold endWith
  simp only []
  repeat' first
    | trivial
    | split
theorem endPrinting_ge (P : Program) (fr : Frame) (v : Value) (w : World) : Gs w.drawn (endPrinting P fr v w):=by
  unfold endPrinting
  simp only []
  repeat' first
    | trivial
    | exact Nat.le_refl _
    | split
theorem endFatal_ge (P : Program) (fr : Frame) (cs : List Frame) (dy : Option Dying) (m : String) (w : World) : Gs w.drawn (endFatal P fr cs dy m w):=by
  unfold endFatal
  extract_lets
  split
  · exact run_ok (by assumption)
  · trivial
  · trivial
theorem writeOn_ge (P : Program) (fr : Frame) (d : Dying) (f : Fatal) (w : World) : Gs w.drawn (writeOn P fr d f w):=by
  unfold writeOn
  extract_lets
  split
  · trivial
  · extract_lets
    rw [Sem.runT_eq]
    generalize hr : Sem.run P _ w = r
    cases r with
    | ok a w'=>exact run_ok hr
    | halt a w'=>
      cases a <;> first | trivial | exact run_ha hr
theorem doReturn_ge (P : Program) (b : Bool) (fr : Frame) (cs : List Frame) (dy : Option Dying) (v : Value) (w : World) : Gs w.drawn (doReturn P b fr cs dy v w):=by
  unfold doReturn
  simp only []
  repeat' first
    | trivial
    | exact Nat.le_refl _
    | split
theorem die_ge (P : Program) (fr : Frame) (d : Dying) (w : World) : Gs w.drawn (die P fr d w):=by
  unfold die
  simp only [Sem.runT_eq]
  repeat' first
    | trivial
    | exact Nat.le_refl _
    | exact writeOn_ge _ _ _ _ _
    | exact endWith_ge _ _ _ _ _
    | exact run_ok (by assumption)
    | refine Gs.after ?_
    | exact (endPrinting_ge _ _ _ _).le (run_ha (by assumption))
    | split
theorem callDeferred_ge (P : Program) (fr : Frame) (cs : List Frame) (dy : Option Dying) (d : Deferred) (w : World) : Gs w.drawn (callDeferred P fr cs dy d w):=by
  unfold callDeferred
  simp only [Sem.runT_eq]
  generalize hr : Sem.run P (invoke d.target d.args) w = r
  cases r with
  | ok a w'=>
    have h2:=run_ok hr
    cases a
    all_goals try dsimp only
    all_goals repeat' first
      | trivial
      | exact h2
      | refine Gs.after ?_
      | (cases ‹Result.ok _ _ = Result.ok _ _› <;> first | exact h2 | trivial)
      | split
  | halt a w'=>
    have h2:=run_ha hr
    cases a
    all_goals try dsimp only
    all_goals repeat' first
      | trivial
      | exact h2
      | refine Gs.after ?_
      | exact (endFatal_ge _ _ _ _ _ _).le h2
      | exact (endThrow_ge _ _ _).le h2
      | split
theorem unwind_ge (P : Program) (b : Bool) (fr : Frame) (cs : List Frame) (dy : Option Dying) (w : World) : Gs w.drawn (unwind P b fr cs dy w):=by
  unfold unwind
  simp only [Sem.runT_eq]
  repeat' first
    | trivial
    | exact Nat.le_refl _
    | exact callDeferred_ge _ _ _ _ _ _
    | exact run_ok (by assumption)
    | refine Gs.after ?_
    | exact endPrinting_ge _ _ _ _
    | exact doReturn_ge _ _ _ _ _ _ _
    | exact (doReturn_ge _ _ _ _ _ _ _).le (run_ok (by assumption))
    | split
theorem early_ge (P : Program) (fr : Frame) (cs : List Frame) (dy : Option Dying) (g : Nat) (w : World) : Gs w.drawn (early P fr cs dy g w):=by
  unfold early
  simp only []
  repeat' first
    | trivial
    | exact Nat.le_refl _
    | (have h9:=run_ok ‹Sem.run P (choose (Question.early g)) w = Result.ok _ _›; exact h9)
    | split
theorem apply_ge (P : Program) (l : Bool) (fr : Frame) (cs : List Frame) (dy : Option Dying) (s : Sem Next) (w : World) : Gs w.drawn (stepG.apply P l fr cs dy s w):=by
  unfold stepG.apply
  have e : (if l = true then s.runT P w #[] else (s.run P w,#[])) = (s.run P w,(if l = true then s.runT P w #[] else (s.run P w,#[])).2):=by
    cases l
    · rfl
    · simp
  simp only []
  rw [e]
  generalize (if l = true then s.runT P w #[] else (s.run P w,#[])).2 = es
  generalize hr : Sem.run P s w = r
  refine Gs.after ?_
  cases r with
  | ok a w'=>
    have h2:=run_ok hr
    cases a
    all_goals try dsimp only
    all_goals repeat' first
      | trivial
      | exact h2
      | exact (endThrow_ge _ _ _).le h2
      | split
  | halt a w'=>
    have h2:=run_ha hr
    cases a
    all_goals try dsimp only
    all_goals repeat' first
      | trivial
      | exact h2
      | exact (endFatal_ge _ _ _ _ _ _).le h2
      | exact (endThrow_ge _ _ _).le h2
      | exact (early_ge _ _ _ _ _ _).le h2
      | (cases ‹Result.halt _ _ = Result.halt _ _› <;> first | exact h2 | exact (early_ge _ _ _ _ _ _).le h2 | trivial)
      | split
theorem oper_ge (P : Program) (l : Bool) (fr : Frame) (cs : List Frame) (dy : Option Dying) (w : World) : Gs w.drawn (stepG.oper P l fr cs dy w):=by
  unfold stepG.oper
  repeat' first
    | trivial
    | exact apply_ge _ _ _ _ _ _ _
    | split
theorem exec_ge (P : Program) (m l : Bool) (fr : Frame) (cs : List Frame) (dy : Option Dying) (w : World) : Gs w.drawn (stepG.exec P m l fr cs dy w):=by
  unfold stepG.exec
  simp only [Sem.runT_eq,Option.elim]
  split
  all_goals try exact Nat.le_refl _
  all_goals repeat' first
    | trivial
    | exact Nat.le_refl _
    | exact apply_ge _ _ _ _ _ _ _
    | exact oper_ge _ _ _ _ _ _
    | exact (doReturn_ge _ _ _ _ _ _ _).le (run_ok (by assumption))
    | exact (apply_ge _ _ _ _ _ _ _).le (run_ok (by assumption))
    | refine Gs.after ?_
    | (have h9:=run_ok (by assumption); exact h9)
    | (have h9:=run_ha (by assumption); exact h9)
    | exact run_ok (by assumption)
    | exact run_ha (by assumption)
    | split
theorem stepG_ge (P : Program) (m l : Bool) (g : Goroutine) (w : World) : Gs w.drawn (stepG P m g w l):=by
  unfold stepG
  repeat' first
    | exact die_ge _ _ _ _
    | exact exec_ge _ _ _ _ _ _ _
    | exact unwind_ge _ _ _ _ _ _
    | split
theorem waiting_ge {rest : Rest} {cases : Array CommCase} {w w' : World} (h : waitingAt rest cases w = some w') : w.drawn <= w'.drawn:=by
  unfold waitingAt at h
  split at h
  · split at h
    · cases h; exact Nat.le_refl _
    · cases h
  · cases h; exact Nat.le_refl _
theorem comm_ge (P : Program) (rest : Rest) (gs : Array Goroutine) (i : Nat) (g : Goroutine) (cases : Array CommCase) (blocking : Bool) (shape : CommShape) (w : World) : Ss w.drawn (communicate P rest gs i g cases blocking shape w).1 := by
  unfold communicate
  extract_lets
  split
  · trivial
  split
  · split
    · split
      · exact waiting_ge (by assumption)
      · trivial
    · exact Nat.le_refl _
  · split
    · trivial
    · have h9:=run_ok (by assumption)
      try extract_lets
      repeat' first
        | trivial
        | exact h9
        | exact Nat.le_trans h9 (run_ok (by assumption))
        | exact Nat.le_trans h9 (run_ha (by assumption))
        | (have h8:=Nat.le_trans h9 (run_ok (by assumption)); exact h8)
        | split
theorem look_ge (P : Program) (gs : Array Goroutine) (rest : Rest) (w : World) : Ss w.drawn (look P gs rest w):=by
  unfold look
  simp only []
  repeat' first
    | trivial
    | exact run_ok (by assumption)
    | (have h9:=run_ok (by assumption); exact h9)
    | split
theorem serve_ge (P : Program) (m : Machine) (k : Nat) : Ss m.world.drawn (serve P m k):=by
  unfold serve
  simp only []
  repeat' first
    | trivial
    | exact Nat.le_refl _
    | split
theorem drain_ge (w : World) (c : Nat) : w.drawn <= (drain w c).2.drawn:=by
  unfold drain
  split <;> exact Nat.le_refl _
theorem retime_ge (m : Machine) (k : Nat) (t : Timer) (a b : Nat) : m.world.drawn <= (retime m k t a b).2.world.drawn:=by
  unfold retime
  cases t.chan with
  | none=>exact Nat.le_refl _
  | some c=>exact drain_ge m.world c
theorem named_ge {m m0 : Machine} {var : Addr} {f : Nat -> Timer -> Value × Machine} {r : Value × Machine} (hf : ∀ k t,m0.world.drawn <= (f k t).2.world.drawn) (h : timerOp.named m var f = .ok r) : m0.world.drawn <= r.2.world.drawn:=by
  unfold timerOp.named at h
  split at h
  · cases h; exact hf _ _
  · cases h
theorem timer_ge {m : Machine} {op : TimerOp} {r : Value × Machine} (h : timerOp m op = .ok r) : m.world.drawn ≤ r.2.world.drawn := by
  cases op with
  | new t =>
    unfold timerOp at h
    simp only [] at h
    split at h
    · cases h; exact Nat.le_refl _
    · split at h
      · split at h
        · cases h
        · cases h; exact Nat.le_refl _
      · cases h
  | stop var=>exact named_ge (fun k t=>retime_ge m k t _ _) h
  | reset var a b =>
    unfold timerOp at h
    simp only [] at h
    split at h
    · rename_i m2 h2
      have e : m.world.drawn <= m2.world.drawn:=by
        unfold timerOp.opened at h2
        split at h2
        · split at h2
          · cases h2; exact Nat.le_refl _
          · cases h2
        · cases h2; exact Nat.le_refl _
      exact named_ge (fun k t=>Nat.le_trans e (retime_ge m2 k t _ _)) h
    · cases h
  | deadline ctx a b c=>
    unfold timerOp at h
    simp only [] at h
    cases h
    exact Nat.le_refl _
theorem runT_ge (P : Program) (m : Machine) (i : Nat) (b : Bool) : Ss m.world.drawn (runT P m i b).1:=by
  simp only [runT]
  generalize m.gs.swapAt! _ _ = gg
  have h:=stepG_ge P (i == 0) b gg.1 m.world
  generalize stepG P _ gg.1 m.world b = s at h ⊢
  cases s with
  | go g w es=>exact h
  | comm g cs bl sh w es=>exact (comm_ge _ _ _ _ _ _ _ _ _).le h
  | spawn g c w es=>exact h
  | count g w es=>
    simp only []
    split
    · trivial
    · exact h
  | timer g op w es=>
    simp only []
    split
    · have h2:=timer_ge (by assumption)
      exact Nat.le_trans h h2
    · exact h
    · trivial
    · trivial
  | alone g on w es=>exact h
  | newcoro g c d w es=>exact h
  | coroswitch g c ex w es=>
    simp only []
    split
    · exact h
    · exact h
    · trivial
  | collect g w es=>exact (look_ge _ _ _ _).le h
  | watch g w es=>exact h
  | ended o w es=>trivial
theorem askOn_ge (P : Program) (m : Machine) : Mv m.world.drawn (askOn P m) := by
  unfold askOn
  simp only []
  split
  · trivial
  have h0:=run_ok (by assumption)
  split
  · exact (serve_ge _ _ _).le h0
  split
  · split
    · exact h0
    · split
      · exact h0
      · split
        · trivial
        · trivial
  · split
    · split
      · trivial
      · have h1:=Nat.le_trans h0 (run_ok (by assumption))
        split
        · exact h1
        · split
          · trivial
          · exact Nat.le_trans h1 (run_ok (by assumption))
    · split
      · trivial
      · have h1:=Nat.le_trans h0 (run_ok (by assumption))
        split
        · trivial
        · have h2:=Nat.le_trans h1 (run_ok (by assumption))
          split
          · exact h2
          · split
            · trivial
            · exact Nat.le_trans h2 (run_ok (by assumption))
      · have h1:=Nat.le_trans h0 (run_ok (by assumption))
        exact h1
      · have h1:=Nat.le_trans h0 (run_ok (by assumption))
        split
        · trivial
        · rename_i h5
          have h6:=run_ok h5
          have h2:=Nat.le_trans h1 h6
          split
          · exact h2
          · split
            · trivial
            · exact Nat.le_trans h2 (run_ok (by assumption))
theorem ask_ge' (P : Program) (m : Machine) : Mv m.world.drawn (ask P m) := by
  unfold ask
  split
  · split
    · trivial
    · have h9:=run_ok (by assumption)
      have h8:=(look_ge P m.gs m.rest _).le h9
      split
      · rename_i h7
        rw [h7] at h8
        exact (askOn_ge _ _).le h8
      · exact h8
    · have h9:=run_ok (by assumption)
      exact (askOn_ge _ _).le h9
  · exact askOn_ge _ _
theorem move_ge (P : Program) (m : Machine) : Mv m.world.drawn (move P m):=by
  unfold move
  repeat' first
    | trivial
    | exact Nat.le_refl _
    | exact ask_ge' P m
    | exact ask_ge' P { m with rest:={ m.rest with slice:=none } }
    | split
theorem step_ge (P : Program) (m : Machine) : Ss m.world.drawn (step P m):=by
  unfold step stepT
  have h:=move_ge P m
  generalize move P m = v at h ⊢
  cases v with
  | goroutine m2 i=>exact (runT_ge P m2 i true).le h
  | machine s ops=>exact h
theorem runN_ge (P : Program) : ∀ (n : Nat) (m m' : Machine),runN P n m = .next m' -> m.world.drawn <= m'.world.drawn
  | 0,m,m',h=>by
    cases h; exact Nat.le_refl _
  | n + 1, m, m', h => by
    unfold runN at h
    have h2:=step_ge P m
    split at h
    · rename_i m2 h3
      rw [h3] at h2
      exact Nat.le_trans h2 (runN_ge P n _ m' h)
    · rename_i h3
      rw [h] at h2
      exact h2
theorem calls_ge {P : Program} {f : FuncId} {args : Array Value} {w : World} {R : Ending -> World -> Prop} (h : Calls P f args w R) (hr : ∀ e w',R e w' -> ∃ v,e = .returned v) : Calls P f args w fun e w'=>R e w' /\ w.drawn <= w'.drawn:=by
  intro cs
  obtain ⟨e,w',fr,h1,h2,h3,h4⟩:=h cs
  refine ⟨e,w',fr,⟨h1,?_⟩,h2,h3,h4⟩
  obtain ⟨v,rfl⟩:=hr e w' h1
  obtain ⟨n,hn⟩:=h2
  exact runN_ge P n _ _ hn
end Mo
end Go.Proofs.YtlcffhadobhfkaaGreatDoor
namespace Go.Proofs
open Go.Shelf
def Tryz.sortMods_ren : Go.Shelf.Ren:=⟨fun | 6=>118 | 15=>158 | 14=>157 | 28=>200 | 29=>201 | 20=>192 | 21=>193 | 22=>194 | 23=>195 | 24=>196 | 25=>197 | 26=>198 | 27=>199 | 46=>228 | 47=>229 | 48=>230 | 49=>231 | 50=>232 | 57=>264 | n=>n,fun | 22=>23 | 24=>25 | 25=>137 | 3=>3 | 39=>181 | 0=>0 | 53=>228 | 55=>230 | 4=>4 | 46=>221 | 45=>220 | 50=>225 | 5=>5 | 9=>9 | 66=>246 | 70=>250 | 76=>266 | 77=>83 | n=>n,fun | n=>n⟩
theorem Tryz.sortMods : Go.Proofs.SlLaysF0.n6 Tryz.prog Tryz.sortMods_ren:={
  mixed:=by kernel_rfl
  f6:=⟨Tryz.f118.name,by decide,Tryz.func118.trans (congrArg some (by kernel_rfl))⟩
  f14:=⟨Tryz.f157.name,by decide,Tryz.func157.trans (congrArg some (by kernel_rfl))⟩
  f15:=Tryz.func158.trans (congrArg some (by kernel_rfl))
  f20:=⟨Tryz.f192.name,by decide,Tryz.func192.trans (congrArg some (by kernel_rfl))⟩
  f21:=⟨Tryz.f193.name,by decide,Tryz.func193.trans (congrArg some (by kernel_rfl))⟩
  f22:=⟨Tryz.f194.name,by decide,Tryz.func194.trans (congrArg some (by kernel_rfl))⟩
  f23:=⟨Tryz.f195.name,by decide,Tryz.func195.trans (congrArg some (by kernel_rfl))⟩
  f24:=⟨Tryz.f196.name,by decide,Tryz.func196.trans (congrArg some (by kernel_rfl))⟩
  f25:=⟨Tryz.f197.name,by decide,Tryz.func197.trans (congrArg some (by kernel_rfl))⟩
  f26:=⟨Tryz.f198.name,by decide,Tryz.func198.trans (congrArg some (by kernel_rfl))⟩
  f27:=⟨Tryz.f199.name,by decide,Tryz.func199.trans (congrArg some (by kernel_rfl))⟩
  f28:=Tryz.func200.trans (congrArg some (by kernel_rfl))
  f29:=Tryz.func201.trans (congrArg some (by kernel_rfl))
  f46:=⟨Tryz.f228.name,by decide,Tryz.func228.trans (congrArg some (by kernel_rfl))⟩
  f47:=Tryz.func229.trans (congrArg some (by kernel_rfl))
  f48:=Tryz.func230.trans (congrArg some (by kernel_rfl))
  f49:=⟨Tryz.f231.name,by decide,Tryz.func231.trans (congrArg some (by kernel_rfl))⟩
  f50:=⟨Tryz.f232.name,by decide,Tryz.func232.trans (congrArg some (by kernel_rfl))⟩
  f57:=⟨Tryz.f264.name,by decide,Tryz.func264.trans (congrArg some (by kernel_rfl))⟩
  t0:=Tryz.underlying0
  a0:=Tryz.isAgg0
  z0:=Tryz.sizeOf0
  v0:=Tryz.zeroValue0
  t3:=Tryz.underlying3
  a3:=Tryz.isAgg3
  z3:=Tryz.sizeOf3
  v3:=Tryz.zeroValue3
  t4:=Tryz.underlying4
  a4:=Tryz.isAgg4
  z4:=Tryz.sizeOf4
  v4:=Tryz.zeroValue4
  t5:=Tryz.underlying5
  a5:=Tryz.isAgg5
  z5:=Tryz.sizeOf5
  v5:=Tryz.zeroValue5
  t9:=Tryz.underlying9
  a9:=Tryz.isAgg9
  z9:=Tryz.sizeOf9
  v9:=Tryz.zeroValue9
  t22:=Tryz.underlying23
  a22:=Tryz.isAgg23
  z22:=Tryz.sizeOf23
  v22:=Tryz.zeroValue23
  t25:=Tryz.underlying137
  a25:=Tryz.isAgg137
  z25:=Tryz.sizeOf137
  v25:=Tryz.zeroValue137
  t39:=Tryz.underlying181
  a39:=Tryz.isAgg181
  z39:=Tryz.sizeOf181
  v39:=Tryz.zeroValue181
  t45:=Tryz.underlying220
  a45:=Tryz.isAgg220
  z45:=Tryz.sizeOf220
  v45:=Tryz.zeroValue220
  t46:=Tryz.underlying221
  a46:=Tryz.isAgg221
  z46:=Tryz.sizeOf221
  v46:=Tryz.zeroValue221
  t50:=Tryz.underlying225
  a50:=Tryz.isAgg225
  z50:=Tryz.sizeOf225
  v50:=Tryz.zeroValue225
  t53:=Tryz.underlying228
  a53:=Tryz.isAgg228
  z53:=Tryz.sizeOf228
  v53:=Tryz.zeroValue228
  t55:=Tryz.underlying230
  a55:=Tryz.isAgg230
  z55:=Tryz.sizeOf230
  v55:=Tryz.zeroValue230
  t66:=Tryz.underlying246
  a66:=Tryz.isAgg246
  z66:=Tryz.sizeOf246
  v66:=Tryz.zeroValue246
  t70:=Tryz.underlying250
  a70:=Tryz.isAgg250
  z70:=Tryz.sizeOf250
  v70:=Tryz.zeroValue250
  t76:=Tryz.underlying266
  a76:=Tryz.isAgg266
  z76:=Tryz.sizeOf266
  v76:=Tryz.zeroValue266
  t77:=Tryz.underlying83
  a77:=Tryz.isAgg83
  z77:=Tryz.sizeOf83
  v77:=Tryz.zeroValue83 }
end Go.Proofs
namespace Go.Proofs.YtlcffhadobhfkaaGreatDoor
open Go.RowKit
namespace Ve
theorem lt_three (a b : ByteArray) : lt a b = true \/ a = b \/ lt b a = true:=by
  rcases cb_range a.data.toList b.data.toList with h | h | h
  · exact Or.inl (decide_eq_true (by omega))
  · exact Or.inr (Or.inl (str_ext ((cb_zero _ _).1 h)))
  · refine Or.inr (Or.inr (decide_eq_true ?_))
    rw [cb_swap]; omega
def nfC (a b : Bm) : Int:=if a.1 = b.1 then (if mAhead b a then -1 else if mAhead a b then 1 else 0) else Lib.compareBytes a.1.data.toList b.1.data.toList
theorem nf_lt {a b : Bm} (ha : Rt a) (hb : Rt b) : nfC a b < 0 ↔ (lt a.1 b.1 = true \/ (a.1 = b.1 /\ ordV (vb b) (vb a) < 0)):=by
  unfold nfC
  by_cases h : a.1 = b.1
  · rw [if_pos h,ahead_same h.symm,ahead_same h,less_right hb.ver ha.ver,less_right ha.ver hb.ver]
    have hl : ¬ lt a.1 b.1 = true:=by rw [h,lt_irrefl]; simp
    by_cases h1 : ordV (vb b) (vb a) < 0
    · simp [h1,h]
    · by_cases h2 : ordV (vb a) (vb b) < 0
      · simp [h1,h2,hl]
      · simp [h1,h2,hl]
  · rw [if_neg h]
    unfold lt
    simp [h]
theorem ordV_le_trans {s t u : List UInt8} (hs : verErr s = 0) (ht : verErr t = 0) (hu : verErr u = 0) (h1 : ordV s t <= 0) (h2 : ordV t u <= 0) : ordV s u <= 0:=by
  rcases Int.lt_or_eq_of_le h1 with a | a
  · rcases Int.lt_or_eq_of_le h2 with b | b
    · exact Int.le_of_lt (ordV_trans a b)
    · rw [<- (ordV_zero ht hu).1 b]; exact h1
  · rw [(ordV_zero hs ht).1 a]; exact h2
theorem nf_not {a b : Bm} (ha : Rt a) (hb : Rt b) (h : ¬ nfC b a < 0) : nfW a b:=by
  rw [nf_lt hb ha] at h
  rcases lt_three a.1 b.1 with h1 | h1 | h1
  · exact Or.inl h1
  · refine Or.inr ⟨h1,ordV_total fun h2=>h (Or.inr ⟨h1.symm,h2⟩)⟩
  · exact absurd (Or.inl h1) h
theorem nf_irr {a : Bm} (ha : Rt a) : ¬ nfC a a < 0:=by
  rw [nf_lt ha ha]
  rintro (h | ⟨_,h⟩)
  · rw [lt_irrefl] at h; cases h
  · rw [(ordV_zero ha.ver ha.ver).2 rfl] at h; omega
theorem nf_trans {a b c : Bm} (ha : Rt a) (hb : Rt b) (hc : Rt c) (h1 : nfC a b < 0) (h2 : nfC b c < 0) : nfC a c < 0:=by
  rw [nf_lt ha hb] at h1
  rw [nf_lt hb hc] at h2
  rw [nf_lt ha hc]
  rcases h1 with h1 | ⟨e1,h1⟩
  · rcases h2 with h2 | ⟨e2,h2⟩
    · exact Or.inl (lt_trans h1 h2)
    · rw [<- e2]; exact Or.inl h1
  · rcases h2 with h2 | ⟨e2,h2⟩
    · rw [e1]; exact Or.inl h2
    · exact Or.inr ⟨e1.trans e2,ordV_trans h2 h1⟩
theorem nfW_trans {a b c : Bm} (ha : Rt a) (hb : Rt b) (hc : Rt c) (h1 : nfW a b) (h2 : nfW b c) : nfW a c:=by
  rcases h1 with h1 | ⟨e1,h1⟩
  · rcases h2 with h2 | ⟨e2,h2⟩
    · exact Or.inl (lt_trans h1 h2)
    · rw [nfW,<- e2]; exact Or.inl h1
  · rcases h2 with h2 | ⟨e2,h2⟩
    · rw [nfW,e1]; exact Or.inl h2
    · exact Or.inr ⟨e1.trans e2,ordV_le_trans hc.ver hb.ver ha.ver h2 h1⟩
theorem nfW_not {a b : Bm} (ha : Rt a) (hb : Rt b) (h : nfW a b) : ¬ nfC b a < 0:=by
  rw [nf_lt hb ha]
  rintro (h2 | ⟨e,h2⟩)
  · rcases h with h | ⟨e,_⟩
    · rw [lt_asymm h] at h2; cases h2
    · rw [e,lt_irrefl] at h2; cases h2
  · rcases h with h | ⟨_,h⟩
    · rw [e,lt_irrefl] at h; cases h
    · rw [ordV_swap (vb b) (vb a)] at h2; omega
theorem Jn.least {D E C : List Bm} (h : Jn D E) (hD : ∀ m,m ∈ D -> hasV C m = true) : undB E C = true:=by
  unfold undB
  rw [List.all_eq_true]
  exact fun m hm=>hD m (h.sub m hm).1
theorem idxB_kind (P : Bm -> Bool) (L : List Bm) : (idxB P L = -1 /\ ∀ x,x ∈ L -> P x = false) \/ ∃ k,∃ hk : k < L.length,idxB P L = (k : Int) /\ P L[k] = true /\ ∀ j (hj : j < L.length),j < k -> P L[j] = false:=by
  by_cases h : L.any P
  · refine Or.inr ⟨L.findIdx P,List.findIdx_lt_length.2 (List.any_eq_true.1 h),by unfold idxB; rw [if_pos h],List.findIdx_getElem,fun j hj hjk=>?_⟩
    have:=List.not_of_lt_findIdx hjk
    simpa using this
  · refine Or.inl ⟨by unfold idxB; rw [if_neg h],fun x hx=>?_⟩
    cases hp : P x
    · rfl
    · exact absurd (List.any_eq_true.2 ⟨x,hx,hp⟩) h
theorem setCells_belowM {w0 W : World} {g : Nat} (h : Below w0.heap.size w0 W) (hg : w0.heap.size <= g) : ∀ (vs : List Value) (o : Nat),Below w0.heap.size w0 (W.setCells g o vs):=by
  intro vs
  induction vs generalizing W with
  | nil=>intro o; exact h
  | cons v r ih=>intro o; exact ih (h.setCell hg v) (o + 1)
theorem Mw.setAt {w0 W : World} {g : Nat} {D : List Bm} (h : Mw w0 W g D) (i : Nat) (hi : i < D.length) (r : Bm) : Mw w0 (W.setCells g (i * 2) (mcells r)) g (D.set i r):=by
  refine Mw.of_cells (setCells_belowM h.bl h.lo _ _) h.lo (by rw [Go.Sort.size_setCells]; exact h.hi) (fun o=>by rw [World.frozen?_setCells]; exact h.fz o) (fun j hj c hc=>?_)
  have hj' : j < D.length:=by simpa using hj
  by_cases e : j = i
  · subst e
    have:=World.cell?_setCells_in g (mcells r) (j * 2) W (fun t ht=>by
      have h9 : t < 2:=ht
      rw [h.cell j hj' t h9]
      match t,h9 with
      | 0,_=>rfl
      | 1,_=>rfl) c hc
    rw [this]
    simp
    exact (List.getElem?_eq_getElem (show c < (mcells r).length from hc)).symm
  · rw [World.cell?_setCells_out g (mcells r) (i * 2) W _ (fun _ _=>by
      show j * 2 + c < i * 2 \/ i * 2 + 2 <= j * 2 + c
      omega),h.cell j hj' c hc]
    rw [List.getElem_set_ne (by omega)]
theorem Mw.cleared {w0 W : World} {g : Nat} {D : List Bm} (h : Mw w0 W g D) (n : Nat) (hn : n <= D.length) (zs : List Value) : Mw w0 (W.setCells g (n * 2) zs) g (D.take n):=by
  refine Mw.of_cells (setCells_belowM h.bl h.lo _ _) h.lo (by rw [Go.Sort.size_setCells]; exact h.hi) (fun o=>by rw [World.frozen?_setCells]; exact h.fz o) (fun j hj c hc=>?_)
  have hj' : j < n:=by simp at hj; omega
  rw [World.cell?_setCells_out g zs (n * 2) W _ (fun _ _=>Or.inl (by show j * 2 + c < n * 2; omega)),h.cell j (by omega) c hc,List.getElem_take]
theorem run_clear_mw {w0 W : World} {g : Nat} {D : List Bm} (h : Mw w0 W g D) (n : Nat) (hn : n < D.length) :
    ∃ zs,∀ ty c,(Builtin.clear_ #[23] ty #[.slice (some ⟨g,n * 2,none⟩) (D.length - n) c]).run Tryz.prog W = .ok (.tuple #[]) (W.setCells g (n * 2) zs):=by
  have hzl : (Builtin.zeroCells (Value.agg #[.string ⟨#[]⟩,.string ⟨#[]⟩]).cells (D.length - n)).toList.length = (D.length - n) * 2:=by
    simp [Builtin.zeroCells,Value.cells]
  refine ⟨(Builtin.zeroCells (Value.agg #[.string ⟨#[]⟩,.string ⟨#[]⟩]).cells (D.length - n)).toList,fun ty c=>?_⟩
  have hst:=run_storeCells_cells (P:=Tryz.prog) g (n * 2) (Builtin.zeroCells (Value.agg #[.string ⟨#[]⟩,.string ⟨#[]⟩]).cells (D.length - n)).toList 0 W (fun j hj=>by
    rw [hzl] at hj
    have e : n * 2 + 0 + j = (n + j / 2) * 2 + j % 2:=by omega
    rw [e,h.cell (n + j / 2) (by omega) (j % 2) (by omega)]
    have h9 : j % 2 < 2:=by omega
    match j % 2,h9 with
    | 0,_=>rfl
    | 1,_=>rfl) (fun j _=>h.fz _) (fun v hv=>by
    simp only [Builtin.zeroCells,Value.cells] at hv
    simp at hv
    obtain ⟨t,_,rfl⟩:=hv
    have h9 : t % 2 < 2:=by omega
    match t % 2,h9 with
    | 0,_=>rfl
    | 1,_=>rfl)
  simp only [Nat.add_zero] at hst
  obtain ⟨m,hm⟩ : ∃ m,D.length - n = m + 1:=⟨D.length - n - 1,by omega⟩
  rw [hm] at hst ⊢
  have hu:=Tryz.underlying23
  have hv : ∀ w,(zeroValue 25).run Tryz.prog w = .ok (.agg #[.string ⟨#[]⟩,.string ⟨#[]⟩]) w:=fun w=>Tryz.zeroValue25 w
  simp [Builtin.clear_,run_underlying hu,hv,hst]
theorem CpM.plain {D : List Bm} {m : Nat} (h : CpM D (m + 1) (D.take (m + 1))) (hs : srtM D) (hr : ∀ r,r ∈ D -> Rt r) (hm : m + 1 < D.length) (he : D[m + 1].1 ≠ (D[m]'(by omega)).1) : CpM D (m + 1 + 1) (D.take (m + 1 + 1)):=by
  have:=h.more hs hr hm he
  rw [List.take_succ_eq_append_getElem hm]
  exact this
theorem CpM.jn {D E : List Bm} (h : CpM D D.length E) (hr : ∀ r,r ∈ D -> Rt r) : Jn D E:=by
  have hs : ∀ e,e ∈ E -> e ∈ D:=fun e he=>by have:=h.sub e he; rw [List.take_length] at this; exact this
  exact ⟨h.ri,fun e he=>⟨hs e he,(hr e (hs e he)).ok⟩,fun x hx _=>h.top x (by rw [List.take_length]; exact hx)⟩
end Ve
end Go.Proofs.YtlcffhadobhfkaaGreatDoor
