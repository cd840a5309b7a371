/-
  The document's first.
-/
import Derived.Test.YtpdknodnlamphaaQ
import Derived.StringKeys
namespace Go.Proofs.Ytpdknodnlamphaa
open Go.RowKit

/-- a pass comes ahead of another one -/
def lx (p q : Ps) : Prop := p.1 < q.1 ∨ (p.1 = q.1 ∧ p.2 < q.2)
theorem upP_pw (n : Nat) : ∀ k, (upP n k).Pairwise lx
  | 0 => List.Pairwise.nil
  | k + 1 => by
    refine List.pairwise_append.2 ⟨upP_pw n k, ?_, fun a ha b hb => ?_⟩
    · unfold rowP
      split
      · exact List.Pairwise.nil
      · rw [List.pairwise_map]
        exact List.pairwise_lt_range.imp (fun h => .inr ⟨rfl, by dsimp only; omega⟩)
    · have h1 := (mem_upP.1 ha).1
      have h2 := (mem_rowP.1 hb).1
      exact .inl (by omega)
theorem pick_is {z : Pz} {k : Nat} {l : List Int} {p : Ps} (hp : okP z.n p) (hs : OkS z (bh l p)) (hd : dst z k (bh l p)) (hmin : ∀ q, okP z.n q → lx q p → ¬ (OkS z (bh l q) ∧ dst z k (bh l q))) : pick z k l = p := by
  have hm : p ∈ fromP z l := mem_fromP.2 ⟨hp, hs⟩
  obtain ⟨pre, post, e⟩ := List.append_of_mem hm
  have hpw : (fromP z l).Pairwise lx := (upP_pw z.n 5).filter _
  rw [e] at hpw
  have hlt := (List.pairwise_append.1 hpw).2.2
  refine pick_first (pre := pre) ⟨post, by rw [e]; simp⟩ (fun q hq hdq => ?_) hd
  have hq' : q ∈ fromP z l := by rw [e]; simp [hq]
  obtain ⟨h1, h2⟩ := mem_fromP.1 hq'
  exact hmin q h1 (hlt q hq p (by simp)) ⟨h2, hdq⟩
/-- what the document's map holds -/
abbrev nmV (n : Nat) (l : List Int) : Value := .string (nmS (gt l) n)
def nG (n : Nat) (G : Gd) : List (Value × Nat) := G.map fun g => (nmV n g.1, g.2)
theorem keyed9 : Maps.Keyed Try.prog 9 := Maps.string_keyed Try.underlying9
theorem key_nm {n : Nat} {l : List Int} (hn : n ≤ 5) (h : ∀ i, 0 ≤ gt l i ∧ gt l i ≤ 11) : ∃ k, keyOf Try.prog 9 (nmV n l) = some k :=
  ⟨_, WideMaps.keyOf_string_mk Try.underlying9 (by rw [nmS_size (fun i _ => h i)]; unfold maxLen; omega)⟩
theorem nm_ne {z : Pz} {x y : List Int} (hx : OkS z x) (hy : OkS z y) (h : nmV z.n x = nmV z.n y) : x = y := by
  have h1 : nmS (gt x) z.n = nmS (gt y) z.n := by injection h
  exact list_ext (hx.1.trans hy.1.symm) (fun i hi => nmS_inj (fun i _ => okS_bound hx i) (fun i _ => okS_bound hy i) h1 i (by rw [← hx.1]; exact hi))
/-- the four ways to go -/
def byF (i : Nat) : Int := if i = 0 then -2 else if i = 1 then -1 else if i = 2 then 1 else if i = 3 then 2 else 3
theorem byF_ok {i : Nat} (h : i < 4) : -2 ≤ byF i ∧ byF i ≤ 2 ∧ byF i ≠ 0 := by
  rcases (show i = 0 ∨ i = 1 ∨ i = 2 ∨ i = 3 by omega) with rfl | rfl | rfl | rfl <;> decide
theorem byF_next {i : Nat} (h : i < 4) {x : Int} (h0 : x ≠ 0) (hx : x < byF (i + 1)) : x ≤ byF i := by
  rcases (show i = 0 ∨ i = 1 ∨ i = 2 ∨ i = 3 by omega) with rfl | rfl | rfl | rfl <;> simp [byF] at * <;> omega

/-- nothing ahead of this pass leads there -/
def Nn (z : Pz) (k : Nat) (l : List Int) (b : Int) (w : Nat) : Prop := ∀ q, okP z.n q → lx q (b, w) → ¬ (OkS z (bh l q) ∧ dst z k (bh l q))
theorem Nn.next {z : Pz} {k : Nat} {l : List Int} {b : Int} {w : Nat} (h : Nn z k l b w) (hn : ¬ (OkS z (bh l (b, w)) ∧ dst z k (bh l (b, w)))) : Nn z k l b (w + 1) := by
  intro q hq hlt
  rcases hlt with h1 | ⟨h1, h2⟩
  · exact h q hq (.inl h1)
  · dsimp only at h1 h2
    by_cases e : q.2 = w
    · obtain rfl : q = (b, w) := Prod.ext h1 e
      exact hn
    · exact h q hq (.inr ⟨h1, by dsimp only; omega⟩)
theorem Nn.over {z : Pz} {k : Nat} {l : List Int} {i : Nat} (hi : i < 4) (h : Nn z k l (byF i) (2 ^ z.n)) : Nn z k l (byF (i + 1)) 1 := by
  intro q hq hlt
  rcases hlt with h1 | ⟨h1, h2⟩
  · have := byF_next hi hq.1.2.2 h1
    rcases Int.lt_or_eq_of_le this with h3 | h3
    · exact h q hq (.inl h3)
    · exact h q hq (.inr ⟨h3, hq.2.2⟩)
  · have := hq.2.1
    dsimp only at h2
    omega
theorem Nn.zero (z : Pz) (k : Nat) (l : List Int) : Nn z k l (byF 0) 1 := by
  intro q hq hlt
  have := hq.1
  have := hq.2
  rcases hlt with h1 | ⟨h1, h2⟩
  · simp [byF] at h1; omega
  · dsimp only at h2; omega
theorem Nn.all {z : Pz} {k : Nat} {l : List Int} (h : Nn z k l (byF 4) 1) (hE : OkS z z.E) : ¬ dst z (k + 1) l := by
  intro hd
  obtain ⟨h1, h2, h3⟩ := pick_ok hE hd
  exact h _ h1 (.inl (by have := h1.1; simp [byF]; omega)) ⟨h2, h3⟩

set_option maxRecDepth 100000 in
set_option maxHeartbeats 8000000 in
theorem rfirst_any (z : Pz) (hn5 : z.n ≤ 5) (hE : OkS z z.E) (l : List Int) (k : Nat) (hd : dst z (k + 1) l) (hls : OkS z l) (G : Gd) (hok : ∀ g ∈ G, dst z g.2 g.1) (hall : ∀ x, rc z k x → Kn G x) (q p : Option Addr) (c d bm : Nat) (W : World) (hq : Is W q z.n (gt l)) (hp : Is W p z.n z.t) (hm : MpI W 9 bm (nG z.n G)) :
    Calls Try.prog 22 #[.slice q z.n c, .slice p z.n d, .int .i64 z.sl, .map (some bm), .int .i64 k] W fun e w' => e = .returned (.agg #[.int .i64 (pick z k l).1, .int .i64 ((pick z k l).2 : Nat)]) ∧ Below W.heap.size W w' := by
  obtain ⟨N, hN⟩ : ∃ N : Nat, N = 2 ^ z.n := ⟨_, rfl⟩
  have HPw := hide (fun V => rpower_any z.n hn5 V)
  rw [← hN] at HPw
  have hN1 : 1 ≤ N := by rw [hN]; exact Nat.one_le_two_pow
  have hN32 : N ≤ 32 := by rw [hN]; exact Nat.pow_le_pow_right (n := 2) (j := 5) (by omega) hn5
  have HN := hide hN
  have b2 := btrans (bnew W (.cells #[.int .i64 0, .int .i64 0] 44)) (bnew _ (.cells #[.int .i64 (-2), .int .i64 (-1), .int .i64 1, .int .i64 2] 3))
  have P2 : PRow ((W.alloc (.cells #[.int .i64 0, .int .i64 0] 44)).alloc (.cells #[.int .i64 (-2), .int .i64 (-1), .int .i64 1, .int .i64 2] 3)) W.heap.size 1 (fun _ => (0, 0)) :=
    PRow.keep ⟨by simp, fun j hj => by
      obtain rfl : j = 0 := by omega
      simp [go_sem]⟩ (bnew _ _)
  have L2 : ∀ i, i < 4 → ((W.alloc (.cells #[.int .i64 0, .int .i64 0] 44)).alloc (.cells #[.int .i64 (-2), .int .i64 (-1), .int .i64 1, .int .i64 2] 3)).cell? ⟨W.heap.size + 1, i, none⟩ = some (.int .i64 (byF i)) := by
    intro i hi
    rcases (show i = 0 ∨ i = 1 ∨ i = 2 ∨ i = 3 by omega) with rfl | rfl | rfl | rfl <;> simp [go_sem, byF]
  go_enter Try.func22, Try.ntmps22
  go_wp2
  obtain ⟨w0, hw0⟩ : ∃ w0, (W.alloc (.cells #[.int .i64 0, .int .i64 0] 44)).alloc (.cells #[.int .i64 (-2), .int .i64 (-1), .int .i64 1, .int .i64 2] 3) = w0 := ⟨_, rfl⟩
  have hs0 : w0.heap.size = W.heap.size + 2 := by rw [← hw0]; simp
  rw [hw0] at b2 P2 L2
  rw [hw0]
  have HQ := hide (fun V (hb : Below w0.heap.size w0 V) => hq.keep (btrans b2 hb))
  have HSt := hide (fun (x : List Int) q1 c1 V (hb : Below w0.heap.size w0 V) (h : Is V q1 z.n (gt x)) => rstand_any q1 p z.n z.n c1 d (gt x) z.t z.sl V h (hp.keep (btrans b2 hb)) (Nat.le_refl _) hn5)
  have HM := hide (fun V (hb : Below w0.heap.size w0 V) => hm.keep (btrans b2 hb))
  have HP2 := hide P2
  have HL2 := hide L2
  have HB2 := hide b2
  clear hw0 b2 P2 L2 hq hp hm hN
  generalize hb0 : W.heap.size = b0 at HP2 HL2 hs0 ⊢
  go_loopw [19] (fun iv wr => ∃ i : Nat, i ≤ 4 ∧ iv = .int .i64 i ∧ Hid (Nn z k l (byF i) 1) ∧ Below w0.heap.size w0 wr) (fun iv _ => 4 - (intOf iv).toNat)
  case atStart => exact ⟨0, by omega, rfl, hide (Nn.zero z k l), Below.refl _ _⟩
  case round =>
    obtain ⟨i, hi, rfl, hno, hB⟩ := hrel
    by_cases hlt : i < 4
    · have hc := keepC hB (show b0 + 1 < w0.heap.size by omega) (unhide HL2 i hlt)
      have hby := byF_ok hlt
      obtain ⟨by0, hby0⟩ : ∃ x, x = byF i := ⟨_, rfl⟩
      rw [← hby0] at hc hby hno
      have Hby0 := hide hby0
      have HB := hide hB
      have g1 : (i : Int) < 4 := by omega
      clear hby0 hB
      go_wp2
      go_loopw [13] (fun wv wr => ∃ w : Nat, 1 ≤ w ∧ w ≤ N ∧ wv = .int .i64 w ∧ Hid (Nn z k l by0 w) ∧ Below w0.heap.size w0 wr) (fun wv _ => N - (intOf wv).toNat)
      case atStart => exact ⟨1, Nat.le_refl _, hN1, rfl, hno, unhide HB⟩
      case round =>
        clear hno HB hc
        obtain ⟨w, hw1, hwN, rfl, hno, hB⟩ := hrel
        have HB := hide hB
        clear hB
        go_wp2_with fail
        refine (unhide HPw _).mono ?_
        rintro e w1 ⟨rfl, rfl⟩
        by_cases hlw : w < N
        · have g2 : (w : Int) < (N : Int) := by omega
          have hokp : okP z.n (by0, w) := ⟨hby, hw1, by rw [← unhide HN]; exact hlw⟩
          go_wp2_with fail
          refine (rbehind_at hn5 l hls q c by0 w _ (unhide HQ _ (unhide HB)) ⟨hby.1, hby.2.1⟩ (by omega)).mono ?_
          rintro e w2 ⟨q2, c2, rfl, hi2, -, hb2⟩
          have B2 := btrans (unhide HB) hb2
          have HS2 := hide (unhide HSt (bh l (by0, w)) q2 c2 w2 B2 hi2)
          clear hb2
          go_wp2_with fail
          refine (unhide HS2).mono ?_
          rintro e w3 ⟨rfl, j3, hj3⟩
          have b3 : Below w2.heap.size w2 w3 := by rw [hj3]; exact Joins.below_draws _ w2 j3
          have B3 := btrans B2 b3
          have hi3 := hi2.keep b3
          have HB3 := hide B3
          clear hj3 b3 B2 hi2 HS2 B3
          cases hr : stB z.n z.t z.sl (gt (bh l (by0, w))) with
          | false =>
            have HNo := hide (Nn.next (unhide hno) (fun h => by rw [(stB_ok hls.1).2 h.1] at hr; cases hr))
            clear hr hi3
            go_wp2
            go_roundw
            case rel => exact ⟨w + 1, by omega, by omega, by go_num, HNo, unhide HB3⟩
            case measure => simp [intOf]; omega
          | true =>
            have ok2 : OkS z (bh l (by0, w)) := (stB_ok hls.1).1 hr
            have HNm := hide (rname_any q2 z.n c2 (gt (bh l (by0, w))) w3 hi3 (fun i _ => okS_bound ok2 i) hn5)
            have M3 := unhide HM w3 (unhide HB3)
            clear hr hi3
            by_cases hkn : Kn G (bh l (by0, w))
            · obtain ⟨j, hj⟩ := hkn
              have hdj := hok _ hj
              have L1 := M3.found keyed9 Try.underlying47 (x := nmV z.n (bh l (by0, w))) (v := j) (List.mem_map.2 ⟨_, hj, rfl⟩) true
              simp only [if_true, nmV] at L1
              clear M3
              generalize nmS (gt (bh l (by0, w))) z.n = nm at *
              by_cases hjk : j = k
              · subst hjk
                have HP := hide (pick_is hokp ok2 hdj (unhide hno))
                have hx : (j : Int) = (j : Int) := rfl
                have P3 := (unhide HP2).keep (unhide HB3)
                obtain ⟨⟨e1, e2⟩, e3, e4⟩ := P3.2 0 (by omega)
                simp only [Nat.zero_mul, Nat.zero_add] at e1 e2 e3 e4
                clear P3 hdj hj hx
                go_wp2_with fail
                refine (unhide HNm).mono ?_
                rintro e w4 ⟨rfl, rfl⟩
                go_wp2
                refine bodyPost_ret (v := .agg #[.int .i64 by0, .int .i64 (w : Nat)]) (by simp [results, Try.results22, go_sem, e1, e3]) rfl ⟨by rw [unhide HP], ?_⟩
                exact bset (bset (btrans (unhide HB2) (unhide HB3)) (by dsimp only; omega)) (by dsimp only; omega)
              · have HNo := hide (Nn.next (unhide hno) (fun h => hjk (dst_unique hdj h.2)))
                have hx : ((j : Int) == (k : Int)) = false := by simp; omega
                have hx2 : ¬ ((j : Int) = (k : Int)) := by omega
                clear hdj hj
                go_wp2_with fail
                refine (unhide HNm).mono ?_
                rintro e w4 ⟨rfl, rfl⟩
                go_wp2
                go_roundw
                case rel => exact ⟨w + 1, by omega, by omega, by go_num, HNo, unhide HB3⟩
                case measure => simp [intOf]; omega
            · obtain ⟨kl, hkl⟩ := key_nm hn5 (okS_bound ok2)
              have L1 := M3.missed keyed9 Try.underlying47 hkl (fun p' hp' e => by
                obtain ⟨g, hg, rfl⟩ := List.mem_map.1 hp'
                exact hkn ⟨g.2, by rw [← nm_ne (rc_ok hE (hok g hg).1) ok2 e]; exact hg⟩) true
              simp only [if_true, nmV] at L1
              have HNo := hide (Nn.next (unhide hno) (fun h => hkn (hall _ h.2.1)))
              clear M3 hkl hkn
              generalize nmS (gt (bh l (by0, w))) z.n = nm at *
              go_wp2_with fail
              refine (unhide HNm).mono ?_
              rintro e w4 ⟨rfl, rfl⟩
              go_wp2
              go_roundw
              case rel => exact ⟨w + 1, by omega, by omega, by go_num, HNo, unhide HB3⟩
              case measure => simp [intOf]; omega
        · obtain rfl : w = N := by omega
          have HNo := hide (show Nn z k l (byF (i + 1)) 1 from Nn.over hlt (by
            have h1 := unhide hno
            rw [unhide Hby0, unhide HN] at h1
            exact h1))
          have g2 : ¬ ((w : Int) < (w : Int)) := by omega
          clear hlw
          go_wp2
          go_roundw
          case rel => exact ⟨i + 1, by omega, by go_num, HNo, unhide HB⟩
          case measure => simp [intOf]; omega
    · obtain rfl : i = 4 := by omega
      exact absurd hd ((unhide hno).all hE)
end Go.Proofs.Ytpdknodnlamphaa
