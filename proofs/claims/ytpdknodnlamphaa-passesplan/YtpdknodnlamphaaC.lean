/-
  Package passes: the iterators all and from.
-/
import Derived.Test.YtpdknodnlamphaaB
import Derived.Test.YtpdknodnlamphaaOv
import Derived.Shelf.Abstract
import Derived.Shelf.RegionOpen
import Derived.OwnWalkIn
import Derived.TacticsInMore
import Derived.LoopNIn
import Derived.LoopIn
namespace Go.Proofs.Ytpdknodnlamphaa
open Go.RowKit Go.Shelf

attribute [local go_sem] Oper.semAt_some

theorem all_any (q : Option Addr) (n c : Nat) (sl : Int) (W : World) : Calls Try.prog 32 #[wkV q n c sl] W fun e w' => e = .returned (.func (.func 33) #[] #[.pointer (some ⟨W.heap.size, 0, none⟩)]) ∧ w' = W.alloc (.cells #[.slice q n c, .int .i64 sl] 36) := by
  go_enter Try.func32, Try.ntmps32
  go_wp2
  go_ret
  exact ⟨rfl, rfl⟩
theorem from_any (q : Option Addr) (n c : Nat) (sl : Int) (l : List Int) (W : World) : Calls Try.prog 30 #[wkV q n c sl, stV l] W fun e w' => e = .returned (.func (.func 31) #[] #[.pointer (some ⟨W.heap.size, 0, none⟩), .pointer (some ⟨W.heap.size + 1, 0, none⟩)]) ∧
    w' = (W.alloc (.cells #[.slice q n c, .int .i64 sl] 36)).alloc (.cells #[.int .i64 (gt l 0), .int .i64 (gt l 1), .int .i64 (gt l 2), .int .i64 (gt l 3), .int .i64 (gt l 4)] 38) := by
  go_enter Try.func30, Try.ntmps30
  go_wp2
  go_ret
  exact ⟨rfl, rfl⟩
theorem KB.kc {C : Nat → Prop} {W V : World} {b : Nat} {q : Option Addr} {n c : Nat} {sl : Int} (h : KB W b q n c sl) (k : KC C W V) (hC : C b) : KB V b q n c sl :=
  ⟨Nat.lt_of_lt_of_le h.1 k.1, k.cell hC h.1 h.2.1, k.cell hC h.1 h.2.2⟩

/-- a pass that is one -/
abbrev Px (n : Nat) := { p : Ps // okP n p }
abbrev psV (p : Ps) : Value := .agg #[.int .i64 p.1, .int .i64 (p.2 : Nat)]
abbrev encP (n : Nat) (x : Px n) : Array Value := #[.agg #[.int .i64 x.1.1, .int .i64 (x.1.2 : Nat)]]
theorem upP_mono (n : Nat) : ∀ (d k : Nat), upP n k <+: upP n (k + d)
  | 0, _ => List.prefix_rfl
  | d + 1, k => (upP_mono n d k).trans (List.prefix_append _ _)
theorem row_take {n : Nat} {b : Int} (hb : b ≠ 0) {j : Nat} (hj : j < 2 ^ n - 1) : (rowP n b).take (j + 1) = (rowP n b).take j ++ [(b, j + 1)] := by
  unfold rowP
  rw [if_neg hb, List.take_add_one]
  simp [hj]
theorem row_all {n : Nat} {b : Int} {j : Nat} (hj : 2 ^ n - 1 ≤ j) : (rowP n b).take j = rowP n b := by
  unfold rowP
  split
  · simp
  · exact List.take_of_length_le (by simpa using hj)

theorem pow_wrap {n : Nat} (h : n ≤ 5) : IntKind.i64.wrap ((2 : Int) ^ n) = ((2 ^ n : Nat) : Int) ∧ wrap64 ((2 : Int) ^ n) = ((2 ^ n : Nat) : Int) ∧ 1 ≤ 2 ^ n ∧ 2 ^ n ≤ 32 := by
  have hp : 1 ≤ 2 ^ n ∧ 2 ^ n ≤ 32 := ⟨Nat.one_le_two_pow, Nat.pow_le_pow_right (n := 2) (i := n) (j := 5) (by omega) h⟩
  have e : ((2 : Int) ^ n) = ((2 ^ n : Nat) : Int) := by simp
  rw [e]
  exact ⟨Go.IntWalk.i64_in _ (by omega), Go.IntWalk.wrap64_in _ (by omega), hp⟩

theorem pow_letter {n : Nat} (h : n ≤ 5) : ∃ (N : Nat) (T : Int), N = 2 ^ n ∧ T = (N : Int) ∧ 1 ≤ N ∧ N ≤ 32 ∧ wrap64 ((2 : Int) ^ n) = T ∧ IntKind.i64.wrap ((2 : Int) ^ n) = T :=
  ⟨2 ^ n, _, rfl, rfl, (pow_wrap h).2.2.1, (pow_wrap h).2.2.2, (pow_wrap h).2.1, (pow_wrap h).1⟩

set_option maxRecDepth 100000 in
set_option maxHeartbeats 4000000 in
theorem all1_gives (Bw n c : Nat) (q : Option Addr) (sl : Int) (h5 : n ≤ 5) (W0 : World) (hK0 : KB W0 Bw q n c sl) :
    Gives 0 33 #[.pointer (some ⟨Bw, 0, none⟩)] (encP n) (fun _ b => b = Bw) (fun xs => xs.map (·.1) = allP n) (fun pre => pre.map (·.1) <+: allP n) W0 := by
  intro l J Jx W hW hJ hJx hY h0
  have HY := hide hY
  have HK := hide (hK0.keep hW)
  clear hY hJ hJx hK0
  obtain ⟨N, T, hN, hT, hN1, hN2, w2, w1⟩ := pow_letter h5
  have HN := hide hN
  have HT := hide hT
  clear hN hT w1
  refine (callsIn_wide (n := 9)).1 (callsIn_of_wp Try.func33 rfl trivial ?_ rfl)
  simp only [Try.ntmps33, List.size_toArray, List.length_cons, List.length_nil, Nat.reduceAdd, Nat.reduceSub, Array.replicate_succ, Array.replicate_zero, List.push_toArray, List.append_toArray, List.nil_append, List.cons_append]
  gi_wp2
  gi_loopw [3] (fun i wr => ∃ (k : Nat) (b : Int) (pre : List (Px n)), k ≤ 5 ∧ b = (k : Int) - 2 ∧ i = .int .i64 b ∧ pre.map (·.1) = upP n k ∧ J pre wr ∧ KB wr Bw q n c sl ∧ W.heap.size ≤ wr.heap.size) (fun i _ => (3 - intOf i).toNat)
  case atStart => exact ⟨0, -2, [], by omega, by omega, rfl, rfl, h0, unhide HK, Nat.le_refl _⟩
  case round =>
    obtain ⟨k, b, pre, hk, hb, rfl, hp, hJs, hK, hs⟩ := hrel
    have Hp := hide hp
    have HJs := hide hJs
    have HKk := hide hK
    have Hb := hide hb
    clear hp hJs hK
    by_cases hlt : k < 5
    · have g1 : b ≤ 2 := by omega
      have g1' : -2 ≤ b := by omega
      clear hb
      gi_wp2
      gi_loopw [4] (fun i wr => ∃ (j : Nat) (y : Int) (pre : List (Px n)), j ≤ N - 1 ∧ y = ((j + 1 : Nat) : Int) ∧ i = .int .i64 y ∧ pre.map (·.1) = upP n k ++ (rowP n b).take j ∧ J pre wr ∧ KB wr Bw q n c sl ∧ W.heap.size ≤ wr.heap.size) (fun i _ => (N - intOf i).toNat)
      case atStart => exact ⟨0, 1, pre, by omega, rfl, rfl, by rw [unhide Hp]; simp, unhide HJs, unhide HKk, hs⟩
      case round =>
        clear Hp HJs HKk hs
        obtain ⟨j, y, pre, hj, hy, rfl, hp, hJs, hK, hs⟩ := hrel
        have Hp := hide hp
        have HJs := hide hJs
        have HKk := hide hK
        have Hy := hide hy
        have y1 : 1 ≤ y := by omega
        have y2 : y ≤ 32 := by omega
        have k1 := hK.2.1
        clear hp hJs hK
        by_cases hb0 : b = 0
        · have Hpp := hide (show pre.map (·.1) = upP n (k + 1) from by rw [unhide Hp, upP, ← unhide Hb, hb0]; simp [rowP])
          have hb' : (b != 0) = false := by simp [hb0]
          clear k1 hy hb0
          gi_wp2
          go_roundw
          case rel => exact ⟨k + 1, b + 1, pre, by omega, by have := unhide Hb; omega, by simp, unhide Hpp, unhide HJs, unhide HKk, hs⟩
          case measure => simp [intOf]; omega
        · have hb' : (b != 0) = true := by simpa using hb0
          by_cases hlj : j < N - 1
          · have hok : okP n (b, j + 1) := ⟨by have := unhide Hb; dsimp only; omega, by dsimp only; omega, by rw [← unhide HN]; dsimp only; omega⟩
            have Hpp := hide (show (pre ++ [(⟨(b, j + 1), hok⟩ : Px n)]).map (·.1) = upP n k ++ (rowP n b).take (j + 1) from by rw [List.map_append, unhide Hp, row_take hb0 (by rw [← unhide HN]; omega), List.append_assoc]; rfl)
            have Hpq := hide (show (pre ++ [(⟨(b, j + 1), hok⟩ : Px n)]).map (·.1) <+: allP n from by
              rw [unhide Hpp]
              refine (List.prefix_append_right_inj _).2 (List.take_prefix _ _) |>.trans ?_
              have := upP_mono n (5 - (k + 1)) (k + 1)
              rw [show k + 1 + (5 - (k + 1)) = 5 by omega, upP, ← unhide Hb] at this
              exact this)
            have g2 : y < T := by rw [unhide HT]; omega
            obtain ⟨fn, tmps, assign, body, hyy, hR⟩ := unhide HY pre ⟨(b, j + 1), hok⟩ wr hs (unhide HJs)
            dsimp only [encP] at hyy
            rw [← hy] at hyy
            clear hy hb0
            gi_wp2
            refine (round_wide hR).mono ?_
            rintro e W3 ⟨hk3, ⟨rfl, hJ3⟩ | ⟨rfl, hJx3⟩⟩
            · have HJ3 := hide hJ3
              have HK3 := hide ((unhide HKk).kc hk3 rfl)
              have hs3 := Nat.le_trans hs hk3.1
              clear hJ3 hk3 hR hyy k1
              gi_wp2
              go_roundw
              case rel => exact ⟨j + 1, y + 1, _, by omega, by have := unhide Hy; omega, by simp, unhide Hpp, unhide HJ3, unhide HK3, hs3⟩
              case measure => have := unhide Hy; simp [intOf]; omega
            · clear k1
              gi_wp2
              refine bodyPost_ret (results_none rfl _ _ _) rfl ?_
              exact ⟨⟨_, rfl⟩, .inr ⟨_, unhide Hpq, hJx3⟩⟩
          · have Hpp := hide (show pre.map (·.1) = upP n (k + 1) from by rw [unhide Hp, upP, ← unhide Hb, row_all (by rw [← unhide HN]; omega)])
            have g2 : ¬ y < T := by rw [unhide HT]; omega
            clear hy hb0
            gi_wp2
            go_roundw
            case rel => exact ⟨k + 1, b + 1, pre, by omega, by have := unhide Hb; omega, by simp, unhide Hpp, unhide HJs, unhide HKk, hs⟩
            case measure => simp [intOf]; omega
    · obtain rfl : k = 5 := by omega
      have g1 : ¬ b ≤ 2 := by omega
      clear hb
      gi_wp2
      go_end0
      exact ⟨⟨_, rfl⟩, .inl ⟨pre, unhide Hp, unhide HJs⟩⟩
end Go.Proofs.Ytpdknodnlamphaa
