/-
  TruthProducts: the mathematics of products, and the law's walk.
-/
import Derived.Test.YtpefcpbkdofblaaRt
namespace Go.Proofs.Ytpefcpbkdofblaa
open Go.RowKit Go.Shelf

theorem dm_div (a b c : Nat) (h : c < b) : (a * b + c) / b = a := by
  rw [Nat.mul_comm, Nat.mul_add_div (by omega), Nat.div_eq_of_lt h, Nat.add_zero]
theorem dm_mod (a b c : Nat) (h : c < b) : (a * b + c) % b = c := by
  rw [Nat.mul_comm, Nat.mul_add_mod, Nat.mod_eq_of_lt h]
theorem pos_of_lt {j a b : Nat} (h : j < a * b) : 0 < a ∧ 0 < b := by
  constructor
  · rcases Nat.eq_zero_or_pos a with e | e
    · subst e; simp at h
    · exact e
  · rcases Nat.eq_zero_or_pos b with e | e
    · subst e; simp at h
    · exact e
theorem any_congr {l : List Nat} {f g : Nat → Bool} (h : ∀ k ∈ l, f k = g k) : l.any f = l.any g := by
  induction l with
  | nil => rfl
  | cons a l ih =>
    rw [List.any_cons, List.any_cons, h a (by simp), ih (fun k hk => h k (by simp [hk]))]
/-- turned twice is as it was -/
theorem tu_tu (f : Nat → Bool) (w h j : Nat) (hj : j < w * h) : tuF (tuF f w h) h w j = f j := by
  obtain ⟨h1, h2⟩ := pos_of_lt hj
  have hd : j / w < h := Nat.div_lt_of_lt_mul hj
  unfold tuF
  rw [dm_mod _ _ _ hd, dm_div _ _ _ hd]
  congr 1
  rw [Nat.mul_comm]
  exact Nat.div_add_mod j w
/-- a product turned is the product of both turned, the other way round -/
theorem pr_tu (f g : Nat → Bool) (wa ha wb j : Nat) (hj : j < ha * wb) : prF (tuF g wb wa) (tuF f wa ha) wa ha j = tuF (prF f g wa wb) wb ha j := by
  obtain ⟨h1, h2⟩ := pos_of_lt hj
  have hx : j / ha < wb := Nat.div_lt_of_lt_mul hj
  have hy : j % ha < ha := Nat.mod_lt _ h1
  unfold tuF prF
  rw [dm_mod _ _ _ hx, dm_div _ _ _ hx]
  refine any_congr (fun k hk => ?_)
  have hk' : k < wa := by simpa using hk
  dsimp only
  rw [dm_mod _ _ _ hk', dm_div _ _ _ hk', dm_mod _ _ _ hy, dm_div _ _ _ hy, Bool.and_comm]
theorem any_swap (l m : List Nat) (f : Nat → Nat → Bool) : (l.any fun a => m.any fun b => f a b) = (m.any fun b => l.any fun a => f a b) := by
  rw [Bool.eq_iff_iff]
  simp only [List.any_eq_true]
  constructor
  · rintro ⟨a, ha, b, hb, h⟩; exact ⟨b, hb, a, ha, h⟩
  · rintro ⟨a, ha, b, hb, h⟩; exact ⟨b, hb, a, ha, h⟩
/-- products go together either way -/
theorem pr_assoc (f g k : Nat → Bool) (wa wb wc j : Nat) (hc : 0 < wc) : prF (prF f g wa wb) k wb wc j = prF f (prF g k wb wc) wa wc j := by
  have hx : j % wc < wc := Nat.mod_lt _ hc
  unfold prF
  have e1 : ((List.range wb).any fun i => ((List.range wa).any fun m => f ((j / wc * wb + i) / wb * wa + m) && g (m * wb + (j / wc * wb + i) % wb)) && k (i * wc + j % wc)) = ((List.range wb).any fun i => (List.range wa).any fun m => f (j / wc * wa + m) && g (m * wb + i) && k (i * wc + j % wc)) := by
    refine any_congr (fun i hi => ?_)
    have hi' : i < wb := by simpa using hi
    rw [dm_mod _ _ _ hi', dm_div _ _ _ hi', Bool.eq_iff_iff]
    simp only [List.any_eq_true, Bool.and_eq_true]
    constructor
    · rintro ⟨⟨m, hm, h⟩, h'⟩; exact ⟨m, hm, h, h'⟩
    · rintro ⟨m, hm, h, h'⟩; exact ⟨⟨m, hm, h⟩, h'⟩
  have e2 : ((List.range wa).any fun m => f (j / wc * wa + m) && (List.range wb).any fun i => g ((m * wc + j % wc) / wc * wb + i) && k (i * wc + (m * wc + j % wc) % wc)) = ((List.range wa).any fun m => (List.range wb).any fun i => f (j / wc * wa + m) && g (m * wb + i) && k (i * wc + j % wc)) := by
    refine any_congr (fun m _ => ?_)
    rw [dm_mod _ _ _ hx, dm_div _ _ _ hx, Bool.eq_iff_iff]
    simp only [List.any_eq_true, Bool.and_eq_true]
    constructor
    · rintro ⟨h', i, hi, h⟩; exact ⟨i, hi, ⟨h', h.1⟩, h.2⟩
    · rintro ⟨i, hi, ⟨h', h1⟩, h2⟩; exact ⟨h', i, hi, h1, h2⟩
  rw [e1, e2, any_swap]

theorem p3w_facts (W : World) (w h : Int) (p : Option Addr) (n cap : Nat) (w2 h2 : Int) (p2 : Option Addr) (n2 cap2 : Nat) (w3 h3 : Int) (p3 : Option Addr) (n3 cap3 : Nat) :
    ∃ w0, ((W.alloc (.cells #[.int .i64 w, .int .i64 h, .slice p n cap] 25)).alloc (.cells #[.int .i64 w2, .int .i64 h2, .slice p2 n2 cap2] 25)).alloc (.cells #[.int .i64 w3, .int .i64 h3, .slice p3 n3 cap3] 25) = w0 ∧ OwnM w0 W.heap.size w h p n cap ∧ OwnM w0 (W.heap.size + 1) w2 h2 p2 n2 cap2 ∧ OwnM w0 (W.heap.size + 1 + 1) w3 h3 p3 n3 cap3 ∧ Below W.heap.size W w0 := by
  have a := OwnM.new W w h p n cap 25
  have b := OwnM.new (W.alloc (.cells #[.int .i64 w, .int .i64 h, .slice p n cap] 25)) w2 h2 p2 n2 cap2 25
  have c := OwnM.new ((W.alloc (.cells #[.int .i64 w, .int .i64 h, .slice p n cap] 25)).alloc (.cells #[.int .i64 w2, .int .i64 h2, .slice p2 n2 cap2] 25)) w3 h3 p3 n3 cap3 25
  rw [World.size_alloc] at b c
  rw [World.size_alloc] at c
  exact ⟨_, rfl, (a.alloc _).alloc _, b.alloc _, c, bal (bal (bal (Below.refl _ _)))⟩

theorem rt_of {W : World} {w h : Int} {p : Option Addr} {n cap : Nat} {f : Nat → Bool} (hb : Bs W p n cap f) (he : wE w h n = 0) : ∃ w' h' : Nat, w = w' ∧ h = h' ∧ Rt W w' h' p n cap f := by
  obtain ⟨w', h', rfl, rfl, h1, h2, h3⟩ := wE_zero w h n he
  exact ⟨w', h', rfl, rfl, h1, h2, h3, hb⟩
theorem pE_zero {w h : Int} {n : Nat} {w2 h2 : Int} {n2 : Nat} (he : pE w h n w2 h2 n2 = 0) : wE w h n = 0 ∧ wE w2 h2 n2 = 0 ∧ w = h2 := by
  unfold pE at he
  split at he
  · rename_i e1
    split at he
    · rename_i e2
      split at he
      · rename_i e3; exact ⟨e1, e2, e3⟩
      · omega
    · rename_i e2; exact absurd he e2
  · rename_i e1; exact absurd he e1
end Go.Proofs.Ytpefcpbkdofblaa
