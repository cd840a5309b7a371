/-
  Looms: what an event does, as one function; Do of anything.
-/
import Derived.Test.YtndfecdhmncdaaaDoB
namespace Go.Proofs.Ytndfecdhmncdaaa
open Go.RowKit

/-- a loom and its disk: state, woven, stop, dead; words, power -/
abbrev LS := Int × Nat × Bool × Bool × (Nat → Int) × Int
/-- an event: what the loom does, the error, the loom behind it -/
def doS (h : Nat) (ev : Int) : LS → Int × Int × LS
  | (st, wv, sp, dd, g, lf) =>
    if evB ev = false then (0, 1, (st, wv, sp, dd, g, lf))
    else if (dd || !may ev st) = true then (0, 9, (st, wv, sp, dd, g, lf))
    else if ev = 1 then (1, 0, (1, wv, sp, dd, g, lf))
    else if ev = 2 then (2, 0, (2, wv, sp, dd, g, lf))
    else if ev = 3 then (if lf = 0 then (0, 11, (st, wv, sp, true, g, lf)) else (3, 0, (4, wv, sp, dd, ptW g 1 ((wv : Int) + 1), lfN lf)))
    else if ev = 4 then (4, 0, (3, wv, sp, dd, g, lf))
    else if ev = 5 then (1, 0, (1, wv, sp, dd, g, lf))
    else if ev = 6 then (if lf = 0 then (0, 11, (st, wv, sp, true, g, lf)) else (nxD h wv sp st, 0, (nxS h wv sp st, wv + 1, false, dd, ptW g 0 ((wv : Int) + 1), lfN lf)))
    else if ev = 7 then (0, 0, (st, wv, true, dd, g, lf))
    else if ev = 8 then (if lf = 0 then (0, 11, (st, wv, sp, true, g, lf)) else (nxD h wv sp st, 0, (nxS h wv sp st, wv + 1, false, dd, ptW g 0 ((wv : Int) + 1), lfN lf)))
    else (if lf = 0 then (0, 11, (st, wv, sp, true, g, lf)) else (0, 0, (0, wv, sp, dd, ptW g 1 0, lfN lf)))

/-- a loom and its disk in memory -/
def LM (W : World) (L w h : Nat) (p : Option Addr) (n cap D q nw cw : Nat) (s : LS) : Prop :=
  LB W L w h p n cap D s.1 s.2.1 s.2.2.1 s.2.2.2.1 ∧ DB W D q nw cw s.2.2.2.2.2 ∧ WR W q nw s.2.2.2.2.1
theorem LM.kept {S : Nat → Prop} {W V : World} {L w h : Nat} {p : Option Addr} {n cap D q nw cw : Nat} {s : LS} (k : LM W L w h p n cap D q nw cw s) (e : Kept S W V) (h1 : ¬ S L) (h2 : ¬ S D) (h3 : ¬ S q) : LM V L w h p n cap D q nw cw s :=
  ⟨k.1.kept e h1, k.2.1.kept e h2, k.2.2.kept e h3⟩
theorem LM.keep {W V : World} {L w h : Nat} {p : Option Addr} {n cap D q nw cw : Nat} {s : LS} (k : LM W L w h p n cap D q nw cw s) (e : Below W.heap.size W V) : LM V L w h p n cap D q nw cw s := k.kept (Kept.of (S := fun _ => False) e) id id id

def DoIs (W : World) (L w h : Nat) (p : Option Addr) (n cap D q nw cw : Nat) (ev : Int) (r : Int × Int × LS) : Prop :=
  Calls Try.prog 13 #[.pointer (some ⟨L, 0, none⟩), .int .i64 ev] W fun e w' => e = .returned (.tuple #[.int .i64 r.1, .int .i64 r.2.1]) ∧ LM w' L w h p n cap D q nw cw r.2.2 ∧ Kept (fun i => i = L ∨ i = D ∨ i = q) W w'
theorem do_of {W : World} {L w h : Nat} {p : Option Addr} {n cap D q nw cw : Nat} {st : Int} {wv : Nat} {sp dd : Bool} {g : Nat → Int} {lf ds er ev : Int}
    (k : Calls Try.prog 13 #[.pointer (some ⟨L, 0, none⟩), .int .i64 ev] W fun e w' => DoPost W L w h p n cap D q nw cw st wv sp dd g lf ds er e w') : DoIs W L w h p n cap D q nw cw ev (ds, er, (st, wv, sp, dd, g, lf)) :=
  k.mono fun _ _ q => ⟨q.1, ⟨q.2.1, q.2.2.1, q.2.2.2.1⟩, q.2.2.2.2⟩
theorem evB_cases {ev : Int} (h : evB ev = true) : ev = 1 ∨ ev = 2 ∨ ev = 3 ∨ ev = 4 ∨ ev = 5 ∨ ev = 6 ∨ ev = 7 ∨ ev = 8 ∨ ev = 9 := by
  simp [evB] at h; omega

theorem do_any {W : World} {L w h : Nat} {p : Option Addr} {n cap D q nw cw : Nat} {s : LS} (ev : Int) (k : LM W L w h p n cap D q nw cw s) (hn : 2 ≤ nw) (hw : s.2.1 ≤ 64) (hm : s.2.2.2.2.2 ≤ 9223372036854775807) :
    DoIs W L w h p n cap D q nw cw ev (doS h ev s) := by
  obtain ⟨st, wv, sp, dd, g, lf⟩ := s
  obtain ⟨k1, k2, k3⟩ := k
  dsimp only at k1 k2 k3 hw hm
  cases he : evB ev with
  | false => rw [doS, if_pos he]; exact do_of (do_kind ev k1 k2 k3 he)
  | true =>
    cases hd : (dd || !may ev st) with
    | true => rw [doS, if_neg (by simp [he]), if_pos hd]; exact do_of (do_state ev k1 k2 k3 he hd)
    | false =>
      rw [doS, if_neg (by simp [he]), if_neg (by simp [hd])]
      obtain ⟨rfl, hm2⟩ : dd = false ∧ may ev st = true := by simpa using hd
      rcases evB_cases he with rfl | rfl | rfl | rfl | rfl | rfl | rfl | rfl | rfl
      · obtain rfl : st = 0 := by simpa [may] using hm2
        exact do_of (do_1 k1 k2 k3)
      · obtain rfl : st = 1 := by simpa [may] using hm2
        exact do_of (do_2 k1 k2 k3)
      · obtain rfl : st = 2 := by simpa [may] using hm2
        by_cases hl : lf = 0
        · simpa [hl] using do_of (do_3_no k1 k2 k3 hn hw hl)
        · simpa [hl] using do_of (do_3_yes k1 k2 k3 hn hw hl hm)
      · obtain rfl : st = 2 := by simpa [may] using hm2
        exact do_of (do_4 k1 k2 k3)
      · obtain rfl : st = 3 := by simpa [may] using hm2
        exact do_of (do_5 k1 k2 k3)
      · obtain rfl : st = 4 := by simpa [may] using hm2
        by_cases hl : lf = 0
        · simpa [hl] using do_of (do_6_no k1 k2 k3 hn hw hl)
        · simpa [hl] using do_of (do_6_yes k1 k2 k3 hn hw hl hm)
      · exact do_of (do_7 k1 k2 k3 hm2)
      · obtain rfl : st = 5 := by simpa [may] using hm2
        by_cases hl : lf = 0
        · simpa [hl] using do_of (do_8_no k1 k2 k3 hn hw hl)
        · simpa [hl] using do_of (do_8_yes k1 k2 k3 hn hw hl hm)
      · obtain rfl : st = 5 := by simpa [may] using hm2
        by_cases hl : lf = 0
        · simpa [hl] using do_of (do_9_no k1 k2 k3 hn hl)
        · simpa [hl] using do_of (do_9_yes k1 k2 k3 hn hl hm)
end Go.Proofs.Ytndfecdhmncdaaa
