/-
  A region whose order is drawn, in a round of a loop over an iterator: walked as one that is in no round.
-/
import Derived.Test.YtpdknodnlamphaaOv
import Derived.OwnWalkIn
import Derived.OrdersHeld
import Derived.Deep.RegionHeld
namespace Go.Proofs.Ytpdknodnlamphaa
open Go.RowKit

theorem op_round {l n : Nat} {ops : Array Oper} {Q : Exit → Act → World → Prop} (hd : ∀ (i : Nat) o, ops[i]? = some o → ∀ c, o.op ≠ .defer c) (hQ : ¬ LetsOut Q) {i : Nat} {K K' : Act → World → Prop} (hK : ∀ a w, K a w → K' a w) {a : Act} {w : World} (h : wpOp Try.prog ops Q i K a w) :
    wpOpIn (Fence.wide.inRound l) n Try.prog ops Q i K' a w := by
  unfold wpOp at h
  unfold wpOpIn
  cases ho : ops[i]? with
  | none => rw [ho] at h; exact hK _ _ h
  | some o =>
    rw [ho] at h
    dsimp only at h ⊢
    by_cases hw : Region.wanted o (yielded ops a.tmps) = true
    · rw [if_pos hw] at h ⊢
      have h1 : o.wp Try.prog a w K Q := h.resolve_right (fun k => hQ k.2)
      refine ⟨fun _ _ => trivial, ?_⟩
      rw [Oper.semAt_plain (Fence.wide.inRound l) _ _ (hd i o ho)]
      unfold Oper.wp at h1
      generalize (execOp a.eval o).run Try.prog w = r at h1 ⊢
      have no : ¬ ((Fence.wide.inRound l).depth.isSome = true) := by simp [Fence.wide, Fence.inRound]
      rcases r with ⟨nx, w'⟩ | ⟨x, w'⟩
      · cases nx with
        | value v => exact hK _ _ h1
        | skip => exact hK _ _ h1
        | defer d => exact hK _ _ h1
        | enter f args =>
          refine ⟨fun k => absurd k no, CallsIn.inRound l (callsIn_wide.2 (Calls.mono h1 fun e w2 he => ?_))⟩
          cases e with
          | returned v => exact hK _ _ he
          | panicked c => exact he
          | outgrown => exact he
        | row row args =>
          refine ⟨fun k => absurd k no, fun c cs _ => ?_⟩
          obtain ⟨v, w2, hv, hs⟩ := h1 c cs
          exact ⟨v, w2, hK _ _ hv, stepsIn_wide.2 hs⟩
        | _ => exact h1.elim
      · cases x with
        | panic v => exact h1
        | _ => exact h1.elim
    · rw [if_neg hw] at h ⊢
      exact ⟨fun _ _ => trivial, hK _ _ h⟩
theorem any_round {l n : Nat} {md : Region.Mode} {ops : Array Oper} {Q : Exit → Act → World → Prop} (hd : ∀ (i : Nat) o, ops[i]? = some o → ∀ c, o.op ≠ .defer c) (hQ : ¬ LetsOut Q) (k : Nat) : ∀ up b V, wpAny Try.prog md ops Q k up b V → wpAnyIn (Fence.wide.inRound l) n Try.prog md ops Q k up b V := by
  induction k with
  | zero => exact fun _ _ _ h => h
  | succ k ih => exact fun _ _ _ h => ⟨h.1, fun i hi => op_round hd hQ (fun b V hk => ih _ b V hk) (h.2 i hi)⟩
theorem region_round {l n id : Nat} {ops : Array Oper} {Q : Exit → Act → World → Prop} {a : Act} {w : World} {S : World → Prop} (hm : Try.prog.follows Departure.mixedOrders = true) (hd : ∀ (i : Nat) o, ops[i]? = some o → ∀ c, o.op ≠ .defer c) (hQ : ¬ LetsOut Q) (hS : S w.drew)
    (h : S w.drew → wpAnyH Try.prog .any ops Q S ops.size (Array.replicate ops.size false) a w.drew) : (Code.region id ops true).wpIn (Fence.wide.inRound l) n Try.prog Q a w :=
  wpIn_region_any hm (any_round hd hQ _ _ _ _ (wpAny_of_held _ _ _ _ (h hS)))
/-- append, in a walk inside a fence: what it makes being known -/
theorem app_in {F : Fence} {n : Nat} {t : TypeId} {ops : Array Oper} {rest : List Oper} {o : Oper} {a : Act} {Q : Exit → Act → World → Prop} {W V : World} {s x : Operand} {v y u : Value} (hgd : o.guard = none) (ho : o.op = .call { callee := .builtin .append, args := #[s, x], argTypes := #[t, t] })
    (hs : a.eval s = v) (hx : a.eval x = y) (hr : (Builtin.append_ #[t, t] o.type #[v, y]).run Try.prog W = .ok u V) (h : wpListIn F n Try.prog ops Q rest (a.put o.dst u) V) : wpListIn F n Try.prog ops Q (o :: rest) a W := by
  have e : (o.semAt F.round a.eval).run Try.prog W = .ok (.value u) V := by
    rw [Oper.semAt_plain F a.eval o (fun c k => by rw [ho] at k; cases k)]
    simp [execOp, builtin, invoke, resolve, Result.andThen, hr, hx, hs, ho]
  refine wpListIn_plain hgd fun K hK => ⟨fun f hf => ?_, by rw [e]; exact hK _ _ h⟩
  simp [Oper.about, ho, resolve, Target.leads] at hf
end Go.Proofs.Ytpdknodnlamphaa
