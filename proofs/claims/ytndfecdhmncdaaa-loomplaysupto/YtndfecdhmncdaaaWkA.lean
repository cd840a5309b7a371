/-
  The workshop round a loom: tell and beat.
-/
import Derived.Test.YtndfecdhmncdaaaWkM
namespace Go.Proofs.Ytndfecdhmncdaaa
open Go.RowKit

/-- a workshop in its box -/
def SB (W : World) (S L : Nat) (td : Int) (up th : Bool) (rq : Option Addr) (rn rc : Nat) (tq : Option Addr) (tn tc : Nat) (bad : Bool) : Prop :=
  (S < W.heap.size ∧ Tg W S 68) ∧ (W.cell? ⟨S, 0, none⟩ = some (.pointer (some ⟨L, 0, none⟩)) ∧ W.cell? ⟨S, 1, none⟩ = some (.int .i64 td) ∧ W.cell? ⟨S, 2, none⟩ = some (.bool up) ∧ W.cell? ⟨S, 3, none⟩ = some (.bool th) ∧ W.cell? ⟨S, 4, none⟩ = some (.slice rq rn rc) ∧ W.cell? ⟨S, 5, none⟩ = some (.slice tq tn tc) ∧ W.cell? ⟨S, 6, none⟩ = some (.bool bad)) ∧
  (W.frozen? ⟨S, 0, none⟩ = false ∧ W.frozen? ⟨S, 1, none⟩ = false ∧ W.frozen? ⟨S, 2, none⟩ = false ∧ W.frozen? ⟨S, 3, none⟩ = false ∧ W.frozen? ⟨S, 4, none⟩ = false ∧ W.frozen? ⟨S, 5, none⟩ = false ∧ W.frozen? ⟨S, 6, none⟩ = false)
theorem SB.kept {Z : Nat → Prop} {W V : World} {S L : Nat} {td : Int} {up th : Bool} {rq : Option Addr} {rn rc : Nat} {tq : Option Addr} {tn tc : Nat} {bad : Bool} (k : SB W S L td up th rq rn rc tq tn tc bad) (e : Kept Z W V) (hS : ¬ Z S) : SB V S L td up th rq rn rc tq tn tc bad := by
  obtain ⟨⟨l, t⟩, ⟨a0, a1, a2, a3, a4, a5, a6⟩, b0, b1, b2, b3, b4, b5, b6⟩ := k
  exact ⟨⟨Nat.lt_of_lt_of_le l e.size, t.kept e l hS⟩, ⟨e.cell l hS a0, e.cell l hS a1, e.cell l hS a2, e.cell l hS a3, e.cell l hS a4, e.cell l hS a5, e.cell l hS a6⟩, e.froz l hS b0, e.froz l hS b1, e.froz l hS b2, e.froz l hS b3, e.froz l hS b4, e.froz l hS b5, e.froz l hS b6⟩
theorem SB.keep {W V : World} {S L : Nat} {td : Int} {up th : Bool} {rq : Option Addr} {rn rc : Nat} {tq : Option Addr} {tn tc : Nat} {bad : Bool} (k : SB W S L td up th rq rn rc tq tn tc bad) (e : Below W.heap.size W V) : SB V S L td up th rq rn rc tq tn tc bad := k.kept (Kept.of (S := fun _ => False) e) id
theorem SB.new (W : World) (L : Nat) (td : Int) (up th : Bool) (rq : Option Addr) (rn rc : Nat) (tq : Option Addr) (tn tc : Nat) (bad : Bool) : SB (W.alloc (.cells #[.pointer (some ⟨L, 0, none⟩), .int .i64 td, .bool up, .bool th, .slice rq rn rc, .slice tq tn tc, .bool bad] 68)) W.heap.size L td up th rq rn rc tq tn tc bad :=
  ⟨⟨by simp, Tg.new _ _ _⟩, ⟨by simp [go_sem], by simp [go_sem], by simp [go_sem], by simp [go_sem], by simp [go_sem], by simp [go_sem], by simp [go_sem]⟩, by simp [go_sem], by simp [go_sem], by simp [go_sem], by simp [go_sem], by simp [go_sem], by simp [go_sem], by simp [go_sem]⟩
theorem SB.loom {W : World} {S L : Nat} {td : Int} {up th : Bool} {rq : Option Addr} {rn rc : Nat} {tq : Option Addr} {tn tc : Nat} {bad : Bool} (k : SB W S L td up th rq rn rc tq tn tc bad) (L2 : Nat) : SB (W.setCell ⟨S, 0, none⟩ (.pointer (some ⟨L2, 0, none⟩))) S L2 td up th rq rn rc tq tn tc bad := by
  obtain ⟨⟨l, t⟩, ⟨a0, a1, a2, a3, a4, a5, a6⟩, b0, b1, b2, b3, b4, b5, b6⟩ := k
  exact ⟨⟨by simpa using l, t.set _ _⟩, ⟨csame a0, cset a1 (by decide), cset a2 (by decide), cset a3 (by decide), cset a4 (by decide), cset a5 (by decide), cset a6 (by decide)⟩, fset b0, fset b1, fset b2, fset b3, fset b4, fset b5, fset b6⟩
theorem SB.todo {W : World} {S L : Nat} {td : Int} {up th : Bool} {rq : Option Addr} {rn rc : Nat} {tq : Option Addr} {tn tc : Nat} {bad : Bool} (k : SB W S L td up th rq rn rc tq tn tc bad) (x : Int) : SB (W.setCell ⟨S, 1, none⟩ (.int .i64 x)) S L x up th rq rn rc tq tn tc bad := by
  obtain ⟨⟨l, t⟩, ⟨a0, a1, a2, a3, a4, a5, a6⟩, b0, b1, b2, b3, b4, b5, b6⟩ := k
  exact ⟨⟨by simpa using l, t.set _ _⟩, ⟨cset a0 (by decide), csame a1, cset a2 (by decide), cset a3 (by decide), cset a4 (by decide), cset a5 (by decide), cset a6 (by decide)⟩, fset b0, fset b1, fset b2, fset b3, fset b4, fset b5, fset b6⟩
theorem SB.up {W : World} {S L : Nat} {td : Int} {up th : Bool} {rq : Option Addr} {rn rc : Nat} {tq : Option Addr} {tn tc : Nat} {bad : Bool} (k : SB W S L td up th rq rn rc tq tn tc bad) (x : Bool) : SB (W.setCell ⟨S, 2, none⟩ (.bool x)) S L td x th rq rn rc tq tn tc bad := by
  obtain ⟨⟨l, t⟩, ⟨a0, a1, a2, a3, a4, a5, a6⟩, b0, b1, b2, b3, b4, b5, b6⟩ := k
  exact ⟨⟨by simpa using l, t.set _ _⟩, ⟨cset a0 (by decide), cset a1 (by decide), csame a2, cset a3 (by decide), cset a4 (by decide), cset a5 (by decide), cset a6 (by decide)⟩, fset b0, fset b1, fset b2, fset b3, fset b4, fset b5, fset b6⟩
theorem SB.thr {W : World} {S L : Nat} {td : Int} {up th : Bool} {rq : Option Addr} {rn rc : Nat} {tq : Option Addr} {tn tc : Nat} {bad : Bool} (k : SB W S L td up th rq rn rc tq tn tc bad) (x : Bool) : SB (W.setCell ⟨S, 3, none⟩ (.bool x)) S L td up x rq rn rc tq tn tc bad := by
  obtain ⟨⟨l, t⟩, ⟨a0, a1, a2, a3, a4, a5, a6⟩, b0, b1, b2, b3, b4, b5, b6⟩ := k
  exact ⟨⟨by simpa using l, t.set _ _⟩, ⟨cset a0 (by decide), cset a1 (by decide), cset a2 (by decide), csame a3, cset a4 (by decide), cset a5 (by decide), cset a6 (by decide)⟩, fset b0, fset b1, fset b2, fset b3, fset b4, fset b5, fset b6⟩
theorem SB.row {W : World} {S L : Nat} {td : Int} {up th : Bool} {rq : Option Addr} {rn rc : Nat} {tq : Option Addr} {tn tc : Nat} {bad : Bool} (k : SB W S L td up th rq rn rc tq tn tc bad) (q2 : Option Addr) (n2 c2 : Nat) : SB (W.setCell ⟨S, 4, none⟩ (.slice q2 n2 c2)) S L td up th q2 n2 c2 tq tn tc bad := by
  obtain ⟨⟨l, t⟩, ⟨a0, a1, a2, a3, a4, a5, a6⟩, b0, b1, b2, b3, b4, b5, b6⟩ := k
  exact ⟨⟨by simpa using l, t.set _ _⟩, ⟨cset a0 (by decide), cset a1 (by decide), cset a2 (by decide), cset a3 (by decide), csame a4, cset a5 (by decide), cset a6 (by decide)⟩, fset b0, fset b1, fset b2, fset b3, fset b4, fset b5, fset b6⟩
theorem SB.rows {W : World} {S L : Nat} {td : Int} {up th : Bool} {rq : Option Addr} {rn rc : Nat} {tq : Option Addr} {tn tc : Nat} {bad : Bool} (k : SB W S L td up th rq rn rc tq tn tc bad) (q2 : Option Addr) (n2 c2 : Nat) : SB (W.setCell ⟨S, 5, none⟩ (.slice q2 n2 c2)) S L td up th rq rn rc q2 n2 c2 bad := by
  obtain ⟨⟨l, t⟩, ⟨a0, a1, a2, a3, a4, a5, a6⟩, b0, b1, b2, b3, b4, b5, b6⟩ := k
  exact ⟨⟨by simpa using l, t.set _ _⟩, ⟨cset a0 (by decide), cset a1 (by decide), cset a2 (by decide), cset a3 (by decide), cset a4 (by decide), csame a5, cset a6 (by decide)⟩, fset b0, fset b1, fset b2, fset b3, fset b4, fset b5, fset b6⟩
theorem SB.bad {W : World} {S L : Nat} {td : Int} {up th : Bool} {rq : Option Addr} {rn rc : Nat} {tq : Option Addr} {tn tc : Nat} {bad : Bool} (k : SB W S L td up th rq rn rc tq tn tc bad) (x : Bool) : SB (W.setCell ⟨S, 6, none⟩ (.bool x)) S L td up th rq rn rc tq tn tc x := by
  obtain ⟨⟨l, t⟩, ⟨a0, a1, a2, a3, a4, a5, a6⟩, b0, b1, b2, b3, b4, b5, b6⟩ := k
  exact ⟨⟨by simpa using l, t.set _ _⟩, ⟨cset a0 (by decide), cset a1 (by decide), cset a2 (by decide), cset a3 (by decide), cset a4 (by decide), cset a5 (by decide), csame a6⟩, fset b0, fset b1, fset b2, fset b3, fset b4, fset b5, fset b6⟩
theorem LM.far {W : World} {L w h : Nat} {p : Option Addr} {n cap D q nw cw : Nat} {s : LS} (k : LM W L w h p n cap D q nw cw s) {b : Nat} (h1 : L ≠ b) (h2 : D ≠ b) (h3 : q ≠ b) (o : Nat) (v : Value) : LM (W.setCell ⟨b, o, none⟩ v) L w h p n cap D q nw cw s := k.kept (kset W b o v) h1 h2 h3
theorem SB.far {W : World} {S L : Nat} {td : Int} {up th : Bool} {rq : Option Addr} {rn rc : Nat} {tq : Option Addr} {tn tc : Nat} {bad : Bool} (k : SB W S L td up th rq rn rc tq tn tc bad) {b : Nat} (h1 : S ≠ b) (o : Nat) (v : Value) : SB (W.setCell ⟨b, o, none⟩ v) S L td up th rq rn rc tq tn tc bad := k.kept (kset W b o v) h1
theorem SB.apart {W : World} {S L : Nat} {td : Int} {up th : Bool} {rq : Option Addr} {rn rc : Nat} {tq : Option Addr} {tn tc : Nat} {bad : Bool} {w h : Nat} {p : Option Addr} {n cap D q nw cw : Nat} {s : LS} (k : SB W S L td up th rq rn rc tq tn tc bad) (m : LM W L w h p n cap D q nw cw s) : L ≠ S ∧ D ≠ S ∧ q ≠ S :=
  ⟨m.1.1.2.ne k.1.2 (by decide), m.2.1.2.2.2.2.2.ne k.1.2 (by decide), m.2.2.1.2.ne k.1.2 (by decide)⟩

/-- what tell leaves -/
def TellPost (W : World) (S L w h : Nat) (p : Option Addr) (n cap D q nw cw : Nat) (rq : Option Addr) (rn rc : Nat) (tq : Option Addr) (tn tc : Nat) (s : LS) (td : Int) (up th bad : Bool) (e : Ending) (w' : World) : Prop :=
  e = .returned (.tuple #[]) ∧ SB w' S L td up th rq rn rc tq tn tc bad ∧ LM w' L w h p n cap D q nw cw s ∧ Kept (fun i => i = S ∨ i = L ∨ i = D ∨ i = q) W w'

set_option maxRecDepth 100000 in
set_option maxHeartbeats 2000000 in
theorem tell_err {W : World} {S L w h : Nat} {p : Option Addr} {n cap D q nw cw : Nat} {rq : Option Addr} {rn rc : Nat} {tq : Option Addr} {tn tc : Nat} {s s' : LS} {ev td : Int} {up th bad : Bool} {ds er : Int} (k : SB W S L td up th rq rn rc tq tn tc bad) (m : LM W L w h p n cap D q nw cw s) (hd : DoIs W L w h p n cap D q nw cw ev (ds, er, s')) (he : er ≠ 0) :
    Calls Try.prog 23 #[.pointer (some ⟨S, 0, none⟩), .int .i64 ev] W fun e w' => TellPost W S L w h p n cap D q nw cw rq rn rc tq tn tc s' td up th bad e w' := by
  have he' : (er != 0) = true := by simpa using he
  clear he
  have h1 := (k.apart m)
  have HD := hide hd
  unfold DoIs at HD
  have K := hide k
  unfold TellPost
  obtain ⟨-, ⟨a0, a1, a2, a3, a4, a5, a6⟩, b0, b1, b2, b3, b4, b5, b6⟩ := k
  clear m hd
  go_enter Try.func23, Try.ntmps23
  go_wp2_with fail
  refine (unhide HD).mono ?_
  rintro e w1 ⟨rfl, hL1, hk1⟩
  have K1 := hide ((unhide K).kept hk1 (fun e => by rcases e with e | e | e; exact h1.1 e.symm; exact h1.2.1 e.symm; exact h1.2.2 e.symm))
  have M1 := hide hL1
  have KK1 := hide (hk1.more (T := fun i => i = S ∨ i = L ∨ i = D ∨ i = q) (fun i hi => .inl (.inr hi)))
  clear hL1 hk1 HD K a0 a1 a2 a3 a4 a5 a6 b0 b1 b2 b3 b4 b5 b6
  obtain ⟨-, ⟨a0, a1, a2, a3, a4, a5, a6⟩, b0, b1, b2, b3, b4, b5, b6⟩ := unhide K1
  go_wp2
  first | go_end0 | exact bodyPost_ret (results_none rfl _ _ _) rfl ?_ | refine bodyPost_ret (results_none rfl _ _ _) rfl ?_
  exact ⟨rfl, unhide K1, unhide M1, unhide KK1⟩

set_option maxRecDepth 100000 in
set_option maxHeartbeats 2000000 in
theorem tell_nil {W : World} {S L w h : Nat} {p : Option Addr} {n cap D q nw cw : Nat} {rq : Option Addr} {rn rc : Nat} {tq : Option Addr} {tn tc : Nat} {s s' : LS} {ev td : Int} {up th bad : Bool} (k : SB W S L td up th rq rn rc tq tn tc bad) (m : LM W L w h p n cap D q nw cw s) (hd : DoIs W L w h p n cap D q nw cw ev (0, 0, s')) :
    Calls Try.prog 23 #[.pointer (some ⟨S, 0, none⟩), .int .i64 ev] W fun e w' => TellPost W S L w h p n cap D q nw cw rq rn rc tq tn tc s' td up th bad e w' := by
  have h1 := (k.apart m)
  have HD := hide hd
  unfold DoIs at HD
  have K := hide k
  unfold TellPost
  obtain ⟨-, ⟨a0, a1, a2, a3, a4, a5, a6⟩, b0, b1, b2, b3, b4, b5, b6⟩ := k
  clear m hd
  go_enter Try.func23, Try.ntmps23
  go_wp2_with fail
  refine (unhide HD).mono ?_
  rintro e w1 ⟨rfl, hL1, hk1⟩
  have K1 := hide ((unhide K).kept hk1 (fun e => by rcases e with e | e | e; exact h1.1 e.symm; exact h1.2.1 e.symm; exact h1.2.2 e.symm))
  have M1 := hide hL1
  have KK1 := hide (hk1.more (T := fun i => i = S ∨ i = L ∨ i = D ∨ i = q) (fun i hi => .inl (.inr hi)))
  clear hL1 hk1 HD K a0 a1 a2 a3 a4 a5 a6 b0 b1 b2 b3 b4 b5 b6
  obtain ⟨-, ⟨a0, a1, a2, a3, a4, a5, a6⟩, b0, b1, b2, b3, b4, b5, b6⟩ := unhide K1
  go_wp2
  first | go_end0 | refine bodyPost_ret (results_none rfl _ _ _) rfl ?_
  exact ⟨rfl, unhide K1, unhide M1, unhide KK1⟩

set_option maxRecDepth 100000 in
set_option maxHeartbeats 2000000 in
theorem tell_lift {W : World} {S L w h : Nat} {p : Option Addr} {n cap D q nw cw : Nat} {rq : Option Addr} {rn rc : Nat} {tq : Option Addr} {tn tc : Nat} {s s' : LS} {ev td : Int} {up th bad : Bool} (k : SB W S L td up th rq rn rc tq tn tc bad) (m : LM W L w h p n cap D q nw cw s) (hd : DoIs W L w h p n cap D q nw cw ev (1, 0, s')) :
    Calls Try.prog 23 #[.pointer (some ⟨S, 0, none⟩), .int .i64 ev] W fun e w' => TellPost W S L w h p n cap D q nw cw rq rn rc tq tn tc s' 1 false false bad e w' := by
  have h1 := (k.apart m)
  have HD := hide hd
  unfold DoIs at HD
  have K := hide k
  unfold TellPost
  obtain ⟨-, ⟨a0, a1, a2, a3, a4, a5, a6⟩, b0, b1, b2, b3, b4, b5, b6⟩ := k
  clear m hd
  go_enter Try.func23, Try.ntmps23
  go_wp2_with fail
  refine (unhide HD).mono ?_
  rintro e w1 ⟨rfl, hL1, hk1⟩
  have K1 := hide ((unhide K).kept hk1 (fun e => by rcases e with e | e | e; exact h1.1 e.symm; exact h1.2.1 e.symm; exact h1.2.2 e.symm))
  have M1 := hide hL1
  have KK1 := hide (hk1.more (T := fun i => i = S ∨ i = L ∨ i = D ∨ i = q) (fun i hi => .inl (.inr hi)))
  clear hL1 hk1 HD K a0 a1 a2 a3 a4 a5 a6 b0 b1 b2 b3 b4 b5 b6
  obtain ⟨-, ⟨a0, a1, a2, a3, a4, a5, a6⟩, b0, b1, b2, b3, b4, b5, b6⟩ := unhide K1
  go_wp2
  go_end0
  exact ⟨rfl, (((unhide K1).todo 1).up false).thr false, ((((unhide M1).far h1.1 h1.2.1 h1.2.2 _ _).far h1.1 h1.2.1 h1.2.2 _ _).far h1.1 h1.2.1 h1.2.2 _ _), (((unhide KK1).set _ _ (.inl (.inl rfl))).set _ _ (.inl (.inl rfl))).set _ _ (.inl (.inl rfl))⟩

set_option maxRecDepth 100000 in
set_option maxHeartbeats 2000000 in
theorem tell_halt {W : World} {S L w h : Nat} {p : Option Addr} {n cap D q nw cw : Nat} {rq : Option Addr} {rn rc : Nat} {tq : Option Addr} {tn tc : Nat} {s s' : LS} {ev td : Int} {up th bad : Bool} (k : SB W S L td up th rq rn rc tq tn tc bad) (m : LM W L w h p n cap D q nw cw s) (hd : DoIs W L w h p n cap D q nw cw ev (4, 0, s')) :
    Calls Try.prog 23 #[.pointer (some ⟨S, 0, none⟩), .int .i64 ev] W fun e w' => TellPost W S L w h p n cap D q nw cw rq rn rc tq tn tc s' 4 up th bad e w' := by
  have h1 := (k.apart m)
  have HD := hide hd
  unfold DoIs at HD
  have K := hide k
  unfold TellPost
  obtain ⟨-, ⟨a0, a1, a2, a3, a4, a5, a6⟩, b0, b1, b2, b3, b4, b5, b6⟩ := k
  clear m hd
  go_enter Try.func23, Try.ntmps23
  go_wp2_with fail
  refine (unhide HD).mono ?_
  rintro e w1 ⟨rfl, hL1, hk1⟩
  have K1 := hide ((unhide K).kept hk1 (fun e => by rcases e with e | e | e; exact h1.1 e.symm; exact h1.2.1 e.symm; exact h1.2.2 e.symm))
  have M1 := hide hL1
  have KK1 := hide (hk1.more (T := fun i => i = S ∨ i = L ∨ i = D ∨ i = q) (fun i hi => .inl (.inr hi)))
  clear hL1 hk1 HD K a0 a1 a2 a3 a4 a5 a6 b0 b1 b2 b3 b4 b5 b6
  obtain ⟨-, ⟨a0, a1, a2, a3, a4, a5, a6⟩, b0, b1, b2, b3, b4, b5, b6⟩ := unhide K1
  go_wp2
  go_end0
  exact ⟨rfl, (unhide K1).todo 4, (unhide M1).far h1.1 h1.2.1 h1.2.2 _ _, (unhide KK1).set _ _ (.inl (.inl rfl))⟩

set_option maxRecDepth 100000 in
set_option maxHeartbeats 4000000 in
theorem tell_throw {W : World} {S L w h : Nat} {p : Option Addr} {n cap D q nw cw : Nat} {rq : Option Addr} {rn rc : Nat} {tq : Option Addr} {tn tc : Nat} {s s' : LS} {ev td : Int} {up th bad : Bool} (k : SB W S L td up th rq rn rc tq tn tc bad) (m : LM W L w h p n cap D q nw cw s) (hd : DoIs W L w h p n cap D q nw cw ev (2, 0, s')) :
    Calls Try.prog 23 #[.pointer (some ⟨S, 0, none⟩), .int .i64 ev] W fun e w' => TellPost W S L w h p n cap D q nw cw rq rn rc tq tn tc s' 2 up th (bad || !up) e w' := by
  cases bad <;> cases up
  all_goals
    have h1 := (k.apart m)
    have HD := hide hd
    unfold DoIs at HD
    have K := hide k
    unfold TellPost
    obtain ⟨-, ⟨a0, a1, a2, a3, a4, a5, a6⟩, b0, b1, b2, b3, b4, b5, b6⟩ := k
    clear m hd
    go_enter Try.func23, Try.ntmps23
    go_wp2_with fail
    refine (unhide HD).mono ?_
    rintro e w1 ⟨rfl, hL1, hk1⟩
    have K1 := hide ((unhide K).kept hk1 (fun e => by rcases e with e | e | e; exact h1.1 e.symm; exact h1.2.1 e.symm; exact h1.2.2 e.symm))
    have M1 := hide hL1
    have KK1 := hide (hk1.more (T := fun i => i = S ∨ i = L ∨ i = D ∨ i = q) (fun i hi => .inl (.inr hi)))
    clear hL1 hk1 HD K a0 a1 a2 a3 a4 a5 a6 b0 b1 b2 b3 b4 b5 b6
    obtain ⟨-, ⟨a0, a1, a2, a3, a4, a5, a6⟩, b0, b1, b2, b3, b4, b5, b6⟩ := unhide K1
    go_wp2
    go_end0
    exact ⟨rfl, ((unhide K1).todo 2).bad _, (((unhide M1).far h1.1 h1.2.1 h1.2.2 _ _).far h1.1 h1.2.1 h1.2.2 _ _), ((unhide KK1).set _ _ (.inl (.inl rfl))).set _ _ (.inl (.inl rfl))⟩

set_option maxRecDepth 100000 in
set_option maxHeartbeats 4000000 in
theorem tell_beat {W : World} {S L w h : Nat} {p : Option Addr} {n cap D q nw cw : Nat} {rq : Option Addr} {rn rc : Nat} {tq : Option Addr} {tn tc : Nat} {s s' : LS} {ev td : Int} {up th bad : Bool} (k : SB W S L td up th rq rn rc tq tn tc bad) (m : LM W L w h p n cap D q nw cw s) (hd : DoIs W L w h p n cap D q nw cw ev (3, 0, s')) :
    Calls Try.prog 23 #[.pointer (some ⟨S, 0, none⟩), .int .i64 ev] W fun e w' => TellPost W S L w h p n cap D q nw cw rq rn rc tq tn tc s' 3 up th ((bad || !up) || !th) e w' := by
  cases bad <;> cases up <;> cases th
  all_goals
    have h1 := (k.apart m)
    have HD := hide hd
    unfold DoIs at HD
    have K := hide k
    unfold TellPost
    obtain ⟨-, ⟨a0, a1, a2, a3, a4, a5, a6⟩, b0, b1, b2, b3, b4, b5, b6⟩ := k
    clear m hd
    go_enter Try.func23, Try.ntmps23
    go_wp2_with fail
    refine (unhide HD).mono ?_
    rintro e w1 ⟨rfl, hL1, hk1⟩
    have K1 := hide ((unhide K).kept hk1 (fun e => by rcases e with e | e | e; exact h1.1 e.symm; exact h1.2.1 e.symm; exact h1.2.2 e.symm))
    have M1 := hide hL1
    have KK1 := hide (hk1.more (T := fun i => i = S ∨ i = L ∨ i = D ∨ i = q) (fun i hi => .inl (.inr hi)))
    clear hL1 hk1 HD K a0 a1 a2 a3 a4 a5 a6 b0 b1 b2 b3 b4 b5 b6
    obtain ⟨-, ⟨a0, a1, a2, a3, a4, a5, a6⟩, b0, b1, b2, b3, b4, b5, b6⟩ := unhide K1
    go_wp2
    go_end0
    exact ⟨rfl, ((unhide K1).todo 3).bad _, (((unhide M1).far h1.1 h1.2.1 h1.2.2 _ _).far h1.1 h1.2.1 h1.2.2 _ _), ((unhide KK1).set _ _ (.inl (.inl rfl))).set _ _ (.inl (.inl rfl))⟩
end Go.Proofs.Ytndfecdhmncdaaa
