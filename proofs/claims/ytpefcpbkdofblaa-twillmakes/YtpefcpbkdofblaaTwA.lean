/-
  Package twill: runs, and what is wrong with them; the first pick.
-/
import Derived.Test.YtpefcpbkdofblaaTwM
import Derived.Test.YtpefcpbkdofblaaLFloat
namespace Go.Proofs.Ytpefcpbkdofblaa
open Go.RowKit Go.Shelf

/-- whole numbers that lie in a slice -/
def Is (W : World) (q : Option Addr) (n : Nat) (f : Nat → Int) : Prop := n = 0 ∨ ∃ b o, q = some ⟨b, o, none⟩ ∧ b < W.heap.size ∧ ∀ k, k < n → W.cell? ⟨b, o + k, none⟩ = some (.int .i64 (f k))
theorem Is.keep {W V : World} {q : Option Addr} {n : Nat} {f : Nat → Int} (h : Is W q n f) (hb : Below W.heap.size W V) : Is V q n f := by
  rcases h with h | ⟨b, o, e, hl, hk⟩
  · exact .inl h
  · exact .inr ⟨b, o, e, Nat.lt_of_lt_of_le hl hb.size, fun k hkn => keepC hb hl (hk k hkn)⟩
theorem Is.at {W : World} {q : Option Addr} {n x : Nat} {f : Nat → Int} (h : Is W q n f) (hx : x < n) : ∃ a o, q = some ⟨a, o, none⟩ ∧ a < W.heap.size ∧ W.cell? ⟨a, o + x, none⟩ = some (.int .i64 (f x)) := by
  rcases h with h | ⟨b, o, e, hl, hk⟩
  · omega
  · exact ⟨b, o, e, hl, hk x hx⟩
theorem Is.congr {W : World} {q : Option Addr} {n : Nat} {f g : Nat → Int} (h : Is W q n f) (e : ∀ k, k < n → f k = g k) : Is W q n g := by
  rcases h with h | ⟨b, o, eq, hl, hk⟩
  · exact .inl h
  · exact .inr ⟨b, o, eq, hl, fun k hkn => by rw [← e k hkn]; exact hk k hkn⟩

/-- a run that may be -/
def okR (v : Int) : Bool := decide (1 ≤ v) && decide (v ≤ 64)
theorem okR_iff (v : Int) : okR v = true ↔ 1 ≤ v ∧ v ≤ 64 := by simp [okR]
theorem okR_no {v : Int} (h : ¬ (1 ≤ v ∧ v ≤ 64)) : okR v = false := by
  cases e : okR v with
  | false => rfl
  | true => exact absurd ((okR_iff v).1 e) h
/-- runs together -/
def suI (r : Nat → Int) : Nat → Int
  | 0 => 0
  | k + 1 => suI r k + r k
/-- what is wrong with runs -/
def rE (n : Nat) (r : Nat → Int) : Int := if n = 0 ∨ n % 2 = 1 ∨ 16 < n then 5 else if (List.range n).all (fun i => okR (r i)) then (if 64 < suI r n then 4 else 0) else 3
theorem rE_bad {n : Nat} {r : Nat → Int} (hn : ¬ (n = 0 ∨ n % 2 = 1 ∨ 16 < n)) (x : Nat) (hx : x < n) (h : ¬ (1 ≤ r x ∧ r x ≤ 64)) : rE n r = 3 := by
  unfold rE
  rw [if_neg hn, if_neg]
  intro k
  rw [List.all_eq_true] at k
  exact h ((okR_iff _).1 (k x (by simpa using hx)))
theorem rE_all {n : Nat} {r : Nat → Int} (hn : ¬ (n = 0 ∨ n % 2 = 1 ∨ 16 < n)) (h : ∀ x, x < n → 1 ≤ r x ∧ r x ≤ 64) : rE n r = if 64 < suI r n then 4 else 0 := by
  unfold rE
  rw [if_neg hn, if_pos]
  rw [List.all_eq_true]
  intro x hx
  exact (okR_iff _).2 (h x (by simpa using hx))
theorem suI_le (r : Nat → Int) (n : Nat) (h : ∀ x, x < n → 1 ≤ r x ∧ r x ≤ 64) : 0 ≤ suI r n ∧ suI r n ≤ 64 * (n : Int) := by
  induction n with
  | zero => simp [suI]
  | succ n ih =>
    have := ih (fun x hx => h x (by omega))
    have := h n (by omega)
    unfold suI
    omega
/-- runs that are right -/
def Rr (n : Nat) (k : Nat → Nat) : Prop := 2 ≤ n ∧ n % 2 = 0 ∧ n ≤ 16 ∧ (∀ i, i < n → 1 ≤ k i) ∧ sN k n ≤ 64
theorem suI_nat (r : Nat → Int) (k : Nat → Nat) (n : Nat) (h : ∀ i, i < n → r i = (k i : Int)) : suI r n = (sN k n : Int) := by
  induction n with
  | zero => rfl
  | succ n ih =>
    unfold suI sN
    rw [ih (fun i hi => h i (by omega)), h n (by omega)]
    omega
theorem rE_right {n : Nat} {r : Nat → Int} (h : rE n r = 0) : ∃ k : Nat → Nat, (∀ i, i < n → r i = (k i : Int)) ∧ Rr n k := by
  by_cases hn : n = 0 ∨ n % 2 = 1 ∨ 16 < n
  · unfold rE at h; rw [if_pos hn] at h; omega
  · by_cases ha : ∀ x, x < n → 1 ≤ r x ∧ r x ≤ 64
    · rw [rE_all hn ha] at h
      have e : ∀ i, i < n → r i = (((r i).toNat : Nat) : Int) := fun i hi => by have := ha i hi; omega
      refine ⟨fun i => (r i).toNat, e, by omega, by omega, by omega, fun i hi => by have := ha i hi; dsimp only; omega, ?_⟩
      have := suI_nat r (fun i => (r i).toNat) n e
      split at h <;> omega
    · exfalso
      have : ∃ x, x < n ∧ ¬ (1 ≤ r x ∧ r x ≤ 64) := Classical.byContradiction fun hc => ha fun x hx => Classical.byContradiction fun hx2 => hc ⟨x, hx, hx2⟩
      obtain ⟨x, hx, hb⟩ := this
      rw [rE_bad hn x hx hb] at h
      omega
theorem rE_ok {n : Nat} {k : Nat → Nat} (h : Rr n k) : rE n (fun i => (k i : Int)) = 0 := by
  have hk : ∀ i, i < n → k i ≤ sN k n := fun i hi => by
    have := sN_mono k (show i + 1 ≤ n by omega)
    rw [show sN k (i + 1) = sN k i + k i from rfl] at this
    omega
  have := h.2.2.2.2
  rw [rE_all (by have := h.1; have := h.2.1; have := h.2.2.1; omega) (fun x hx => by have := h.2.2.2.1 x hx; have := hk x hx; omega), suI_nat _ k n (fun _ _ => rfl), if_neg (by omega)]
theorem rE_cases (n : Nat) (r : Nat → Int) : rE n r = 0 ∨ rE n r = 3 ∨ rE n r = 4 ∨ rE n r = 5 := by
  unfold rE
  split
  · omega
  · split
    · split <;> omega
    · omega

def RunsIs (F : Nat) (q : Option Addr) (n c : Nat) (W : World) (er : Int) : Prop := Calls Try.prog F #[.slice q n c] W fun e w' => e = .returned (.int .i64 er) ∧ Below W.heap.size W w'

set_option maxHeartbeats 1000000 in
theorem wruns_many (q : Option Addr) (n c : Nat) (W : World) (h : n = 0 ∨ n % 2 = 1 ∨ 16 < n) : RunsIs 19 q n c W 5 := by
  unfold RunsIs
  by_cases h0 : n = 0
  · have c0 : ((n : Int) == 0) = true := by simp [h0]
    clear h h0
    go_enter Try.func19, Try.ntmps19
    go_wp2
    go_ret
    exact ⟨rfl, Below.refl _ _⟩
  · have c0 : ((n : Int) == 0) = false := by simp; omega
    by_cases h1 : n % 2 = 1
    · have c1 : (n : Int) % 2 = 1 := by omega
      clear h h0 h1
      go_enter Try.func19, Try.ntmps19
      go_wp2
      go_ret
      exact ⟨rfl, Below.refl _ _⟩
    · have c1 : (n : Int) % 2 = 0 := by omega
      have c2 : (16 : Int) < (n : Int) := by omega
      clear h h0 h1
      go_enter Try.func19, Try.ntmps19
      go_wp2
      go_ret
      exact ⟨rfl, Below.refl _ _⟩

set_option maxHeartbeats 2000000 in
theorem wruns_few (q : Option Addr) (n c : Nat) (r : Nat → Int) (W : World) (hq : Is W q n r) (h : ¬ (n = 0 ∨ n % 2 = 1 ∨ 16 < n)) : RunsIs 19 q n c W (rE n r) := by
  unfold RunsIs
  have c0 : ((n : Int) == 0) = false := by simp; omega
  have c1 : (n : Int) % 2 = 0 := by omega
  have c2 : ¬ ((16 : Int) < (n : Int)) := by omega
  have hn : n ≤ 16 := by omega
  have HQ := hide hq
  have Hbad := hide (fun x hx hb => rE_bad (r := r) h x hx hb)
  have Hall := hide (fun ha => rE_all (r := r) h ha)
  clear hq h
  go_enter Try.func19, Try.ntmps19
  go_wp2
  clear c0 c1 c2
  go_loopw [3, 22] (fun s i wr => ∃ x : Nat, x ≤ n ∧ i = .int .i64 x ∧ s = .int .i64 (suI r x) ∧ (∀ j, j < x → 1 ≤ r j ∧ r j ≤ 64) ∧ Below W.heap.size W wr) (fun _ i _ => n - (intOf i).toNat)
  case atStart => exact ⟨0, Nat.zero_le _, rfl, rfl, fun j hj => by omega, Below.refl _ _⟩
  case round =>
    obtain ⟨x, hx, rfl, rfl, ha, hb⟩ := hrel
    have hs := suI_le r x ha
    have Ha := hide ha
    clear ha
    by_cases hlt : x < n
    · obtain ⟨a, o, rfl, l1, k1⟩ := ((unhide HQ).keep hb).at hlt
      have q1 : (x : Int) < (n : Int) := by omega
      have q2 : (0 : Int) ≤ (x : Int) := by omega
      by_cases h1 : r x < 1
      · have Hz := hide (unhide Hbad x hlt (by omega))
        go_wp2
        go_ret
        exact ⟨ret_int (unhide Hz).symm, hb⟩
      · by_cases h2 : 64 < r x
        · have Hz := hide (unhide Hbad x hlt (by omega))
          have h1' : decide (r x < 1) = false := by simpa using h1
          go_wp2
          go_ret
          exact ⟨ret_int (unhide Hz).symm, hb⟩
        · have Hs := hide (show suI r (x + 1) = suI r x + r x from rfl)
          have Hn := hide (show ∀ j, j < x + 1 → 1 ≤ r j ∧ r j ≤ 64 from fun j hj => by
            by_cases e : j = x
            · subst e; omega
            · exact unhide Ha j (by omega))
          have h1' : decide (r x < 1) = false := by simpa using h1
          have h2' : decide (64 < r x) = false := by simpa using h2
          generalize suI r x = s at *
          generalize r x = v at *
          have e1 : wrap64 (s + v) = s + v := Go.IntWalk.wrap64_in _ (by omega)
          go_wp2
          go_roundw
          case rel => exact ⟨x + 1, by omega, by go_num, by rw [unhide Hs], unhide Hn, hb⟩
          case measure => simp [intOf]; omega
    · obtain rfl : x = n := by omega
      have cl : ¬ ((x : Int) < (x : Int)) := by omega
      have Hz := hide (unhide Hall (unhide Ha))
      generalize suI r x = s at *
      by_cases h2 : 64 < s
      · rw [if_pos h2] at Hz
        go_wp2
        go_ret
        exact ⟨ret_int (unhide Hz).symm, hb⟩
      · rw [if_neg h2] at Hz
        go_wp2
        go_ret
        exact ⟨ret_int (unhide Hz).symm, hb⟩

theorem wruns_any (q : Option Addr) (n c : Nat) (r : Nat → Int) (W : World) (hq : Is W q n r) : RunsIs 19 q n c W (rE n r) := by
  by_cases h : n = 0 ∨ n % 2 = 1 ∨ 16 < n
  · have := wruns_many q n c W h
    rw [show rE n r = 5 by unfold rE; rw [if_pos h]]
    exact this
  · exact wruns_few q n c r W hq h

set_option maxRecDepth 100000 in
set_option maxHeartbeats 2000000 in
theorem pick_ok {W : World} {q : Option Addr} {n : Nat} (c : Nat) {k : Nat → Nat} (hq : Is W q n (fun i => (k i : Int))) (hr : Rr n k) (s : Nat) (hs : s = sN k n) :
    Calls Try.prog 20 #[.slice q n c] W fun e V => ∃ q' cp, e = .returned (.slice q' s cp) ∧ (Bs V q' s cp (upF k n) ∧ ∀ j, j < W.heap.size → Off q' s j) ∧ Below W.heap.size W V := by
  obtain ⟨i0, hi, hz0, hz1, hz2⟩ := info_parts info4
  have HQ := hide hq
  have Hs := hide hs
  have hn : n ≤ 16 := hr.2.2.1
  have Hr := hide hr
  have Hle := hide (show ∀ x, x ≤ n → sN k x ≤ 64 from fun x hx => Nat.le_trans (sN_mono k hx) hr.2.2.2.2)
  clear hq hs hr
  go_enter Try.func20, Try.ntmps20
  go_wp2
  go_loopw [3, 8] (fun v i wr => ∃ (x l cp : Nat) (q' : Option Addr), x ≤ n ∧ i = .int .i64 x ∧ l = sN k x ∧ v = .slice q' l cp ∧ wr.ownsRow W.heap.size 4 1 (.slice q' l cp) l (bitsV (upF k n) l) ∧ Below W.heap.size W wr) (fun _ i _ => n - (intOf i).toNat)
  case atStart => exact ⟨0, 0, 0, none, Nat.zero_le _, rfl, rfl, rfl, World.ownsRow_nil _ _ _ _, Below.refl _ _⟩
  case round =>
    obtain ⟨x, l, cp, q', hx, rfl, hl, rfl, hown, hb⟩ := hrel
    have Hl := hide hl
    have HO := hide hown
    clear hl hown
    by_cases hlt : x < n
    · obtain ⟨a, o, rfl, l1, k1⟩ := ((unhide HQ).keep hb).at hlt
      have q1 : (x : Int) < (n : Int) := by omega
      have q2 : (0 : Int) ≤ (x : Int) := by omega
      have hlk : l + k x ≤ 64 := by have := unhide Hle (x + 1) (by omega); rw [show sN k (x + 1) = sN k x + k x from rfl] at this; rw [unhide Hl]; exact this
      have Hnx := hide (show sN k (x + 1) = l + k x by rw [unhide Hl]; rfl)
      have Hup := hide (show ∀ t, t < k x → upF k n (l + t) = decide (x % 2 = 0) from fun t ht => upF_at k n x (l + t) hlt (by rw [← unhide Hl]; omega) (by rw [unhide Hnx]; omega))
      generalize k x = kx at *
      have Hb := hide hb
      clear hb
      go_wp2
      clear k1 l1
      obtain ⟨dd, hdd⟩ : ∃ dd : Int, (x : Int) % 2 = dd := ⟨_, rfl⟩
      obtain ⟨par, hpar⟩ : ∃ par : Bool, (dd == 0) = par := ⟨_, rfl⟩
      have Hpar := hide (show decide (x % 2 = 0) = par by
        rw [← hpar, ← hdd, Bool.eq_iff_iff]; simp; omega)
      go_loopw [3, 14] (fun v i wr => ∃ (t cp : Nat) (q' : Option Addr), t ≤ kx ∧ i = .int .i64 t ∧ v = .slice q' (l + t) cp ∧ wr.ownsRow W.heap.size 4 1 (.slice q' (l + t) cp) (l + t) (bitsV (upF k n) (l + t)) ∧ Below W.heap.size W wr) (fun _ i _ => kx - (intOf i).toNat)
      case atStart => exact ⟨0, cp, q', Nat.zero_le _, rfl, rfl, unhide HO, unhide Hb⟩
      case round =>
        clear HO Hb
        obtain ⟨t, cp, q', ht, rfl, rfl, hown, hb⟩ := hrel
        by_cases hlx : t < kx
        · have qx : (t : Int) < (kx : Int) := by omega
          have Hv := hide (show bitsV (upF k n) (l + t + 1) = bitsV (upF k n) (l + t) ++ [.bool par] by rw [bitsV_succ, unhide Hup t hlx, unhide Hpar])
          have hsz := hb.size
          go_wp2_with (at_builtin; refine wpList_append_own _ rfl _ _ 23 rfl W.heap.size 4 i0 (.bool false) 1 1 Try.underlying23 hi hz0 hz1 hz2 rfl (by decide) _ _ _ rfl (hown.alloc _) ⟨wr.heap.size, 0, none⟩ 1 1 [.bool par] rfl rfl (cell_one_new _ _ _) (by simp [Value.oneCell']) (by unfold maxLen; omega) (by omega) (by simp; omega) ?_)
          intro v' w4 hown' hgrow _
          have S6 := hide ((hb.alloc hsz (.cells #[.bool par] 4)).grown hgrow (by simp; omega) (fun k hk => (hown.lt k hk).1))
          obtain ⟨q2', cap', rfl⟩ := own_form hown'
          have HO := hide hown'
          clear hown hown' hgrow hb
          go_wp2
          go_roundw
          case rel =>
            refine ⟨t + 1, cap', q2', by omega, by go_num, rfl, ?_, unhide S6⟩
            have := unhide HO
            rw [← unhide Hv] at this
            exact this
          case measure => simp [intOf]; omega
        · obtain rfl : t = kx := by omega
          have cl : ¬ ((t : Int) < (t : Int)) := by omega
          have HO := hide hown
          have Hb := hide hb
          clear hown hb
          go_wp2
          go_roundw
          case rel => exact ⟨x + 1, l + t, cp, q', by omega, by go_num, (unhide Hnx).symm, rfl, unhide HO, unhide Hb⟩
          case measure => simp [intOf]; omega
    · obtain rfl : x = n := by omega
      have cl : ¬ ((x : Int) < (x : Int)) := by omega
      obtain rfl : l = s := by rw [unhide Hl, unhide Hs]
      have HI := hide (own_bs (unhide HO) rfl)
      have HF := hide (fun j (hj : j < W.heap.size) => own_off (unhide HO) hj)
      go_wp2
      exact bodyPost_ret (v := .slice q' l cp) (by simp [results, Try.results20, go_sem]) rfl ⟨q', cp, rfl, ⟨unhide HI, unhide HF⟩, hb⟩
end Go.Proofs.Ytpefcpbkdofblaa
