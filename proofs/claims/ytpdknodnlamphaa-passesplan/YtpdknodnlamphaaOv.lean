/-
  A loop over an iterator whose own body goes over another iterator: what a round owes, and the loop's law.
-/
import Derived.Test.YtpdknodnlamphaaBase
import Derived.RangeFuncNested
import Derived.RangeFuncBound
import Derived.RangeFuncLeaves
namespace Go.Proofs.Ytpdknodnlamphaa
open Go.RowKit

/-- these blocks lie as they lay -/
def KC (C : Nat → Prop) (W V : World) : Prop := W.heap.size ≤ V.heap.size ∧ ∀ b, C b → b < W.heap.size → V.heap[b]? = W.heap[b]?
theorem KC.refl (C : Nat → Prop) (W : World) : KC C W W := ⟨Nat.le_refl _, fun _ _ _ => rfl⟩
theorem KC.trans {C : Nat → Prop} {a b c : World} (h : KC C a b) (k : KC C b c) : KC C a c :=
  ⟨Nat.le_trans h.1 k.1, fun i hi hl => (k.2 i hi (Nat.lt_of_lt_of_le hl h.1)).trans (h.2 i hi hl)⟩
theorem KC.less {C T : Nat → Prop} {a b : World} (h : KC C a b) (k : ∀ i, T i → C i) : KC T a b := ⟨h.1, fun i hi hl => h.2 i (k i hi) hl⟩
theorem KC.below {C : Nat → Prop} {W V : World} (h : Below W.heap.size W V) : KC C W V := ⟨h.size, fun i _ hl => h.block i hl⟩
theorem KC.kept {C S : Nat → Prop} {W V : World} (h : Kept S W V) (k : ∀ i, C i → ¬ S i) : KC C W V := ⟨h.2.2.2.1, fun i hi hl => h.2.2.2.2 i hl (k i hi)⟩
theorem KC.put {C : Nat → Prop} (W : World) (l : Nat) (o : Obj) (h : ¬ C l) : KC C W (W.putObj l o) :=
  ⟨by simp, fun i hi _ => World.putObj_heap_other (fun e => h (e ▸ hi))⟩
theorem KC.block {C : Nat → Prop} {W V : World} {b : Nat} {o : Obj} (h : KC C W V) (hC : C b) (hb : W.heap[b]? = some o) : V.heap[b]? = some o :=
  (h.2 b hC (Array.getElem?_eq_some_iff.1 hb).1).trans hb
theorem KC.cell {C : Nat → Prop} {W V : World} {b j : Nat} {v : Value} (h : KC C W V) (hC : C b) (hl : b < W.heap.size) (hc : W.cell? ⟨b, j, none⟩ = some v) : V.cell? ⟨b, j, none⟩ = some v := by
  rw [World.cell?_of_block (a := ⟨b, j, none⟩) (h.2 b hC hl)]; exact hc

theorem round_deep {m m' l l' : Nat} {f : FuncId} {tmps : Array Value} {assign body : Code} {w : World} {R : Ending → World → Prop} (h : RoundIn Fence.wide m Try.prog l f tmps assign body w R) : RoundIn (Fence.wide.inRound l') m' Try.prog l f tmps assign body w R :=
  ⟨h.1, fun c cs _ => h.2 c cs (room_wide _)⟩
theorem round_wide {m m' l : Nat} {f : FuncId} {tmps : Array Value} {assign body : Code} {w : World} {R : Ending → World → Prop} (h : RoundIn Fence.wide m Try.prog l f tmps assign body w R) : RoundIn Fence.wide m' Try.prog l f tmps assign body w R :=
  ⟨h.1, fun c cs _ => h.2 c cs (room_wide _)⟩

/-- what a call of yield makes of a caller's facts, in either way -/
def Yd {α : Type} (J Jx : List α → World → Prop) (C : Nat → Prop) (pre : List α) (V : World) (e : Ending) (V' : World) : Prop :=
  KC C V V' ∧ ((e = .returned (.bool true) ∧ J pre V') ∨ (e = .returned (.bool false) ∧ Jx pre V'))
/-- an iterator: what it gives to whoever goes over it. C s: the blocks that a round must leave alone, s being the heap's size where it is called; d: so many blocks it lays ahead of its first round, at least -/
def Gives {α : Type} (d g : Nat) (lb : Array Value) (encs : α → Array Value) (C : Nat → Nat → Prop) (S Sp : List α → Prop) (W0 : World) : Prop :=
  ∀ (l : Nat) (J Jx : List α → World → Prop) (W : World), Below W0.heap.size W0 W → OwnFrom W.heap.size J → OwnFrom W.heap.size Jx →
    (∀ pre x V, W.heap.size + d ≤ V.heap.size → J pre V → YieldAt Fence.wide 9 Try.prog l (encs x) V (Yd J Jx (C W.heap.size) (pre ++ [x]) V)) → J [] W →
    Calls Try.prog g (#[.func (.yield l) #[] #[]] ++ lb) W fun e V => (∃ v, e = .returned v) ∧ ((∃ xs, S xs ∧ J xs V) ∨ ∃ pre, Sp pre ∧ Jx pre V)

/-- the loop's two blocks: its record, and the one behind which deferred calls would lie -/
def Lg (s : Nat) (r : Loop) (V : World) : Prop := V.heap[s + 1]? = some (.loop r) ∧ V.heap[s]? = some (.deferred (some []))
theorem Lg.lt {s : Nat} {r : Loop} {V : World} (h : Lg s r V) : s + 1 < V.heap.size := (Array.getElem?_eq_some_iff.1 h.1).1
theorem Lg.kc {C : Nat → Prop} {s : Nat} {r : Loop} {W V : World} (h : Lg s r W) (k : KC C W V) (h1 : C s) (h2 : C (s + 1)) : Lg s r V := ⟨k.block h2 h.1, k.block h1 h.2⟩
theorem Lg.turn {s : Nat} {r : Loop} {V : World} (h : Lg s r V) (r' : Loop) : Lg s r' (V.putObj (s + 1) (.loop r')) := ⟨World.putObj_heap_same h.lt, (World.putObj_heap_other (by omega)).trans h.2⟩
theorem Lg.own {s B : Nat} {r : Loop} (hB : s + 2 ≤ B) : OwnFrom B (fun (_ : Unit) V => Lg s r V) := fun _ X Y row h hg hr => by
  have hl := h.lt
  have k : ∀ j, j < s + 2 → Y.heap[j]? = X.heap[j]? := fun j hj => hg.block j (by omega) (fun e => by have := (hr j e.symm).1; omega)
  exact ⟨(k _ (by omega)).trans h.1, (k _ (by omega)).trans h.2⟩
theorem own_turn {β : Type} {B : Nat} {I : β → World → Prop} (h : OwnFrom B I) {b : β} {s : Nat} {r r' : Loop} {V : World} (hI : I b V) (hl : Lg s r V) (hB : B ≤ s + 1) : I b (V.putObj (s + 1) (.loop r')) := h.putObj _ hI hB hl.1 rfl

/-- what a body's walk ends in: the kept blocks, and the caller's facts -/
def Out {α : Type} (I Ix : List α → World → Prop) (C : Nat → Prop) (s : Nat) (xs : List α) (V : World) : Exit → Act → World → Prop
  | .normal, _, V' => KC (fun b => C b ∨ b = s ∨ b = s + 1) V V' ∧ I xs V'
  | .ret, _, V' => KC (fun b => C b ∨ b = s ∨ b = s + 1) V V' ∧ Ix xs V'
  | _, _, _ => False

/-- a frame with what a round is handed -/
def handed (ps : Array Tmp) (vs T : Array Value) : Array Value := (ps.zip vs).foldl (fun t q => t.setIfInBounds q.1 q.2) T

/-- one round -/
theorem one_round {α : Type} {fn : FuncId} {tmps : Array Value} {ps : Array Tmp} {assign body : Code} {encs : α → Array Value} {C : Nat → Prop} {s : Nat} (hC : ∀ b, C b → b ≠ s ∧ b ≠ s + 1) {I Ix : List α → World → Prop} (hI : OwnFrom s I) (hIx : OwnFrom s Ix)
    {A : α → Act → World → Prop} (hA : ∀ x a, OwnFrom s (fun (_ : Unit) W => A x a W)) (hps : ∀ x, (encs x).size = ps.size) {pre : List α} {x : α} {V : World} (hl : Lg s ⟨.ready, none, fn, tmps, ps, assign, body, s⟩ V)
    (hassign : ∀ K : Act → World → Prop, (∀ a V', KC (fun b => C b ∨ b = s ∨ b = s + 1) V V' → I pre V' → A x a V' → K a V') →
      assign.wpIn (Fence.wide.inRound (s + 1)) 7 Try.prog (Exit.then K (fun _ _ _ => False)) ⟨handed ps (encs x) tmps, []⟩ V)
    (hbody : ∀ a V', V.heap.size ≤ V'.heap.size → I pre V' → A x a V' → body.wpIn (Fence.wide.inRound (s + 1)) 7 Try.prog (Out I Ix C s (pre ++ [x]) V') a V') :
    YieldAt Fence.wide 9 Try.prog (s + 1) (encs x) V (Yd (fun q W => I q W ∧ Lg s ⟨.ready, none, fn, tmps, ps, assign, body, s⟩ W) (fun q W => Ix q W ∧ Lg s ⟨.done, some .ret, fn, tmps, ps, assign, body, s⟩ W) C (pre ++ [x]) V) := by
  have hCn : ¬ C (s + 1) := fun h => (hC _ h).2 rfl
  refine ⟨fn, _, assign, body, run_yield hl.1 (hps x), round_wide (m := 7) (roundIn_of_wpIn trivial (hassign _ fun a V1 hk1 hi1 ha1 => ?_))⟩
  have hl1 := hl.kc hk1 (.inr (.inl rfl)) (.inr (.inr rfl))
  have hb := hl1.turn ⟨.busy, none, fn, tmps, ps, assign, body, s⟩
  refine ⟨_, run_beginRound hl1.1 rfl, wpIn_mono (hbody a _ (by simpa using hk1.1) (own_turn hI hi1 hl1 (by omega)) (own_turn (b := ()) (hA x a) ha1 hl1 (by omega))) ?_⟩
  have hk2 : KC C V (V1.putObj (s + 1) (.loop ⟨.busy, none, fn, tmps, ps, assign, body, s⟩)) := (hk1.less fun _ h => .inl h).trans (KC.put _ _ _ hCn)
  intro e a2 V2 hp
  cases e with
  | normal =>
    obtain ⟨hk3, hi3⟩ := hp
    have hl3 := hb.kc hk3 (.inr (.inl rfl)) (.inr (.inr rfl))
    exact ⟨_, _, run_endRound none hl3.1, (hk2.trans (hk3.less fun _ h => .inl h)).trans (KC.put _ _ _ hCn), .inl ⟨rfl, own_turn hI hi3 hl3 (by omega), hl3.turn _⟩⟩
  | ret =>
    obtain ⟨hk3, hi3⟩ := hp
    have hl3 := hb.kc hk3 (.inr (.inl rfl)) (.inr (.inr rfl))
    exact ⟨_, _, run_endRound (some .ret) hl3.1, (hk2.trans (hk3.less fun _ h => .inl h)).trans (KC.put _ _ _ hCn), .inr ⟨rfl, own_turn hIx hi3 hl3 (by omega), hl3.turn _⟩⟩
  | exit _ => exact hp.elim
  | goto _ => exact hp.elim
  | panic _ => exact hp.elim
  | outgrown => exact hp.elim

abbrev mark (D : Nat) : Deferred := { target := .collected D, args := #[] }

/-- the loop over an iterator -/
theorem over {w : World} {d gf : Nat} {body assign : Code} {lb : Array Value} {a : Act} {ps : Array Tmp} {g : Operand} {α : Type} {Q : Exit → Act → World → Prop} (hv : a.eval g = .func (.func gf) #[] lb) (he : ∀ args V, (callFunc gf args).run Try.prog V = .ok (.enter gf args) V)
    {encs : α → Array Value} {C : Nat → Nat → Prop} {S Sp : List α → Prop} (hseq : Gives d gf lb encs C S Sp w) (hC : ∀ b, C (w.heap.size + 2) b → b ≠ w.heap.size ∧ b ≠ w.heap.size + 1) (hps : ∀ x, (encs x).size = ps.size)
    (I Ix : List α → World → Prop) (hI : OwnFrom w.heap.size I) (hIx : OwnFrom w.heap.size Ix) (h0 : I [] w) (A : α → Act → World → Prop) (hA : ∀ x a, OwnFrom w.heap.size (fun (_ : Unit) W => A x a W))
    (hassign : ∀ pre x V (K : Act → World → Prop), w.heap.size + 1 < V.heap.size → I pre V → (∀ a V', KC (fun b => C (w.heap.size + 2) b ∨ b = w.heap.size ∨ b = w.heap.size + 1) V V' → I pre V' → A x a V' → K a V') →
      assign.wpIn (Fence.wide.inRound (w.heap.size + 1)) 7 Try.prog (Exit.then K (fun _ _ _ => False)) ⟨handed ps (encs x) a.tmps, []⟩ V)
    (hbody : ∀ pre x a V, w.heap.size + 2 + d ≤ V.heap.size → I pre V → A x a V → body.wpIn (Fence.wide.inRound (w.heap.size + 1)) 7 Try.prog (Out I Ix (C (w.heap.size + 2)) w.heap.size (pre ++ [x]) V) a V)
    (hdone : ∀ xs V, S xs → I xs V → V.heap[w.heap.size]? = some (.deferred (some [])) → Q .normal { a with defers := mark w.heap.size :: a.defers } V)
    (hstop : ∀ pre V, Sp pre → Ix pre V → V.heap[w.heap.size]? = some (.deferred (some [])) → Q .ret { a with defers := mark w.heap.size :: a.defers } V) :
    (Code.rangeFunc g ps assign body).wpIn Fence.wide 9 Try.prog Q a w := by
  refine wpIn_rangeFunc fun fn _ => ?_
  obtain ⟨W1, hW1⟩ : ∃ W1, (w.alloc (.deferred (some []))).alloc (.loop ⟨.ready, none, fn, a.tmps, ps, assign, body, w.heap.size⟩) = W1 := ⟨_, rfl⟩
  have hs1 : W1.heap.size = w.heap.size + 2 := by rw [← hW1]; simp
  have hl1 : Lg w.heap.size ⟨.ready, none, fn, a.tmps, ps, assign, body, w.heap.size⟩ W1 := by
    rw [← hW1]
    have h1 := World.alloc_heap_new (w.alloc (.deferred (some []))) (.loop ⟨.ready, none, fn, a.tmps, ps, assign, body, w.heap.size⟩)
    rw [World.size_alloc] at h1
    exact ⟨h1, (Below.heap_alloc _ _ _ (by simp)).trans (World.alloc_heap_new w _)⟩
  have hi1 : I [] W1 := by rw [← hW1]; exact hI.alloc _ (hI.alloc _ h0)
  have hb1 : Below w.heap.size w W1 := by rw [← hW1]; exact bal (bal (Below.refl _ _))
  have more : ∀ {β : Type} {T : β → World → Prop}, OwnFrom w.heap.size T → OwnFrom W1.heap.size T := fun h s X Y row hs hg' hr => h s X Y row hs hg' (fun r e => ⟨by have := (hr r e).1; omega, (hr r e).2⟩)
  have both : ∀ {T : List α → World → Prop} (r : Loop), OwnFrom w.heap.size T → OwnFrom W1.heap.size (fun q V => T q V ∧ Lg w.heap.size r V) := fun r h => (more h).and (fun _ X Y row hs hg' hr => Lg.own (by omega) () X Y row hs hg' hr)
  refine ⟨w.heap.size + 1, [mark w.heap.size], W1, { target := .fn (.func gf) lb, args := #[.func (.yield (w.heap.size + 1)) #[] #[]] }, W1, gf, #[.func (.yield (w.heap.size + 1)) #[] #[]] ++ lb, W1, ?_, ?_, fun _ _ => trivial, ?_, (fun _ => by omega), ?_⟩
  · rw [← hW1]; exact run_enterLoop_outer _ _ _ _ _
  · simp only [resolve, hv]
    simp [go_sem]
  · simp [invoke, go_sem, he]
  · refine callsIn_wide.2 ((hseq (w.heap.size + 1) _ _ W1 hb1 (both _ hI) (both ⟨.done, some .ret, fn, a.tmps, ps, assign, body, w.heap.size⟩ hIx) ?_ ⟨hi1, hl1⟩).mono ?_)
    · rintro pre x V hV ⟨hi, hl⟩
      rw [hs1]
      exact one_round hC hI hIx hA hps hl (fun K hK => hassign pre x V K hl.lt hi hK) (fun a' V' h1 h2 h3 => hbody pre x a' V' (by omega) h2 h3)
    · rintro e V ⟨⟨v, rfl⟩, ⟨xs, hS, hi, hl⟩ | ⟨pre, hSp, hi, hl⟩⟩
      · exact ⟨none, _, run_endLoop hl.1 (by simp), hdone xs _ hS (own_turn hI hi hl (by omega)) (hl.turn _).2⟩
      · exact ⟨some .ret, _, run_endLoop hl.1 (by simp), wpIn_ret (hstop pre _ hSp (own_turn hIx hi hl (by omega)) (hl.turn _).2)⟩
end Go.Proofs.Ytpdknodnlamphaa
