/-
  The document's Wrong and Do, whole.
-/
import Derived.Test.YtancniamgfppiaaRfC0
import Derived.Test.YtancniamgfppiaaRfC1
import Derived.Test.YtancniamgfppiaaRfE
import Derived.Test.YtancniamgfppiaaRfF
import Derived.Test.YtancniamgfppiaaRfG
import Derived.Test.YtancniamgfppiaaRfH
namespace Go.Proofs.Ytancniamgfppiaa
open Go.RowKit

theorem wn1 (N : Nat) (s : St) (b n : Nat) : wnE N s 1 b n = if (s.on b n).length = 0 then 6 else 0 := by
  unfold wnE whN neB
  simp
theorem wn2 (N : Nat) (s : St) (b n : Nat) : wnE N s 2 b n = if 8 ≤ (s.on b n).length then 5 else 0 := by
  unfold wnE whN neB
  simp
  split <;> split <;> omega
theorem wn3 (N : Nat) (s : St) (b n : Nat) : wnE N s 3 b n = 0 := by
  unfold wnE whN neB
  simp
theorem wn5 (N : Nat) (s : St) (b n : Nat) : wnE N s 5 b n = if (s.on b n).length = 0 then 6 else 0 := by
  unfold wnE whN neB
  simp
theorem wn4 (N : Nat) (s : St) (b n : Nat) : wnE N s 4 b n = if hasB N (fcB b) (fcN s.rack b n) = false then 3 else if (s.on b n).length = 0 then 6 else if 8 < (s.on (fcB b) (fcN s.rack b n).toNat).length + (s.on b n).length then 5 else 0 := by
  unfold wnE whN neB
  simp

theorem rwn_0 {W : World} {N : Nat} {q1 q2 q3 : Option Addr} {m1 c1 m2 c2 m3 c3 : Nat} {r : Rs} (hh : HR W 0 (.slice q2 m2 c2) r.held) (hI : RIv r) (hN : N ≤ 128) (h3 : ¬ 4096 ≤ r.done) {n : Nat} (hn : n < N) (dk ca tt : Int) (h1 : ¬ dk < 1) (h5 : ¬ 5 < dk) :
    Ans 51 #[rsV N (.slice q1 m1 c1) (.slice q2 m2 c2) (.slice q3 m3 c3) r.rack r.done, .agg #[.int .i64 dk, .int .i64 0, .int .i64 n, .int .i64 ca, .int .i64 tt]] W (.int .i64 (if usB dk = true ∧ (ca < 0 ∨ 8 ≤ ca) then 3 else wnE N (absS r) dk 0 n)) := by
  have hl : r.held.length ≤ 4096 := by have := hI.2.2; have : r.done ≤ 4096 := hI.1.1; omega
  have r1 : -4 ≤ r.rack := hI.1.2.2.2.2.1
  have r2 : r.rack ≤ 4 := hI.1.2.2.2.2.2
  have e0 : (absS r).on 0 n = onL r.held 0 n := rfl
  rcases (show dk = 1 ∨ dk = 2 ∨ dk = 3 ∨ dk = 4 ∨ dk = 5 by omega) with rfl | rfl | rfl | rfl | rfl
  · by_cases hc1 : ca < 0
    · rw [if_pos ⟨rfl, .inl hc1⟩]; exact rw_c1_1_0 n ca tt hh hl h3 hn hN r1 r2 hc1
    by_cases hc2 : 7 < ca
    · rw [if_pos ⟨rfl, .inr (by omega)⟩]; exact rw_c2_1_0 n ca tt hh hl h3 hn hN r1 r2 hc1 hc2
    rw [if_neg (by omega), wn1, e0]
    by_cases ho : (onL r.held 0 n).length = 0
    · rw [if_pos ho]; exact rw_k0_0 n ca tt hh hl h3 hn hN r1 r2 hc1 hc2 ho
    · rw [if_neg ho]; exact rw_k1_0 n ca tt hh hl h3 hn hN r1 r2 hc1 hc2 ho
  · by_cases hc1 : ca < 0
    · rw [if_pos ⟨rfl, .inl hc1⟩]; exact rw_c1_2_0 n ca tt hh hl h3 hn hN r1 r2 hc1
    by_cases hc2 : 7 < ca
    · rw [if_pos ⟨rfl, .inr (by omega)⟩]; exact rw_c2_2_0 n ca tt hh hl h3 hn hN r1 r2 hc1 hc2
    rw [if_neg (by omega), wn2, e0]
    by_cases ho : 8 ≤ (onL r.held 0 n).length
    · rw [if_pos ho]; exact rw_t0_0 n ca tt hh hl h3 hn hN r1 r2 hc1 hc2 ho
    · rw [if_neg ho]; exact rw_t1_0 n ca tt hh hl h3 hn hN r1 r2 hc1 hc2 ho
  · by_cases hc1 : ca < 0
    · rw [if_pos ⟨rfl, .inl hc1⟩]; exact rw_c1_3_0 n ca tt hh hl h3 hn hN r1 r2 hc1
    by_cases hc2 : 7 < ca
    · rw [if_pos ⟨rfl, .inr (by omega)⟩]; exact rw_c2_3_0 n ca tt hh hl h3 hn hN r1 r2 hc1 hc2
    rw [if_neg (by omega), wn3]
    exact rw_m_0 n ca tt hh hl h3 hn hN r1 r2 hc1 hc2
  · rw [if_neg (fun q => by have := q.1; simp [usB] at this), wn4, e0]
    have e1 : (absS r).rack = r.rack := rfl
    have e2 : fcB 0 = 1 := rfl
    have e3 : (absS r).on 1 (fcN r.rack 0 n).toNat = onL r.held 1 ((fcN r.rack 0 n).toNat : Nat) := rfl
    rw [e1, e2, e3]
    by_cases f1 : fcN r.rack 0 n < 0
    · rw [if_pos (by unfold hasB; rw [show decide (0 ≤ fcN r.rack 0 n) = false by simpa using f1]; simp)]
      exact rw_v1_0 n ca tt hh hl h3 hn hN r1 r2 f1
    by_cases f2 : (N : Int) ≤ fcN r.rack 0 n
    · rw [if_pos (by unfold hasB; rw [show decide (fcN r.rack 0 n < (N : Int)) = false by simpa using f2]; simp)]
      exact rw_v2_0 n ca tt hh hl h3 hn hN r1 r2 f1 f2
    rw [if_neg (by rw [(hasB_iff _ _ _).2 ⟨by omega, by omega, by omega, by omega⟩]; simp)]
    have e4 : (((fcN r.rack 0 n).toNat : Nat) : Int) = fcN r.rack 0 n := by omega
    rw [e4]
    by_cases ho : (onL r.held 0 n).length = 0
    · rw [if_pos ho]; exact rw_v3_0 n ca tt hh hl h3 hn hN r1 r2 f1 f2 ho
    rw [if_neg ho]
    by_cases hs : 8 < (onL r.held 0 n).length + (onL r.held 1 (fcN r.rack 0 n)).length
    · rw [if_pos (by rw [Nat.add_comm]; exact hs)]; exact rw_v4_0 n ca tt hh hl h3 hn hN r1 r2 f1 f2 ho hs
    · rw [if_neg (by rw [Nat.add_comm]; exact hs)]; exact rw_v5_0 n ca tt hh hl h3 hn hN r1 r2 f1 f2 ho hs
  · rw [if_neg (fun q => by have := q.1; simp [usB] at this), wn5, e0]
    by_cases ho : (onL r.held 0 n).length = 0
    · rw [if_pos ho]; exact rw_d0_0 n ca tt hh hl h3 hn hN r1 r2 ho
    · rw [if_neg ho]; exact rw_d1_0 n ca tt hh hl h3 hn hN r1 r2 ho

theorem rwn_1 {W : World} {N : Nat} {q1 q2 q3 : Option Addr} {m1 c1 m2 c2 m3 c3 : Nat} {r : Rs} (hh : HR W 0 (.slice q2 m2 c2) r.held) (hI : RIv r) (hN : N ≤ 128) (h3 : ¬ 4096 ≤ r.done) {n : Nat} (hn : n < N) (dk ca tt : Int) (h1 : ¬ dk < 1) (h5 : ¬ 5 < dk) :
    Ans 51 #[rsV N (.slice q1 m1 c1) (.slice q2 m2 c2) (.slice q3 m3 c3) r.rack r.done, .agg #[.int .i64 dk, .int .i64 1, .int .i64 n, .int .i64 ca, .int .i64 tt]] W (.int .i64 (if usB dk = true ∧ (ca < 0 ∨ 8 ≤ ca) then 3 else wnE N (absS r) dk 1 n)) := by
  have hl : r.held.length ≤ 4096 := by have := hI.2.2; have : r.done ≤ 4096 := hI.1.1; omega
  have r1 : -4 ≤ r.rack := hI.1.2.2.2.2.1
  have r2 : r.rack ≤ 4 := hI.1.2.2.2.2.2
  have e0 : (absS r).on 1 n = onL r.held 1 n := rfl
  rcases (show dk = 1 ∨ dk = 2 ∨ dk = 3 ∨ dk = 4 ∨ dk = 5 by omega) with rfl | rfl | rfl | rfl | rfl
  · by_cases hc1 : ca < 0
    · rw [if_pos ⟨rfl, .inl hc1⟩]; exact rw_c1_1_1 n ca tt hh hl h3 hn hN r1 r2 hc1
    by_cases hc2 : 7 < ca
    · rw [if_pos ⟨rfl, .inr (by omega)⟩]; exact rw_c2_1_1 n ca tt hh hl h3 hn hN r1 r2 hc1 hc2
    rw [if_neg (by omega), wn1, e0]
    by_cases ho : (onL r.held 1 n).length = 0
    · rw [if_pos ho]; exact rw_k0_1 n ca tt hh hl h3 hn hN r1 r2 hc1 hc2 ho
    · rw [if_neg ho]; exact rw_k1_1 n ca tt hh hl h3 hn hN r1 r2 hc1 hc2 ho
  · by_cases hc1 : ca < 0
    · rw [if_pos ⟨rfl, .inl hc1⟩]; exact rw_c1_2_1 n ca tt hh hl h3 hn hN r1 r2 hc1
    by_cases hc2 : 7 < ca
    · rw [if_pos ⟨rfl, .inr (by omega)⟩]; exact rw_c2_2_1 n ca tt hh hl h3 hn hN r1 r2 hc1 hc2
    rw [if_neg (by omega), wn2, e0]
    by_cases ho : 8 ≤ (onL r.held 1 n).length
    · rw [if_pos ho]; exact rw_t0_1 n ca tt hh hl h3 hn hN r1 r2 hc1 hc2 ho
    · rw [if_neg ho]; exact rw_t1_1 n ca tt hh hl h3 hn hN r1 r2 hc1 hc2 ho
  · by_cases hc1 : ca < 0
    · rw [if_pos ⟨rfl, .inl hc1⟩]; exact rw_c1_3_1 n ca tt hh hl h3 hn hN r1 r2 hc1
    by_cases hc2 : 7 < ca
    · rw [if_pos ⟨rfl, .inr (by omega)⟩]; exact rw_c2_3_1 n ca tt hh hl h3 hn hN r1 r2 hc1 hc2
    rw [if_neg (by omega), wn3]
    exact rw_m_1 n ca tt hh hl h3 hn hN r1 r2 hc1 hc2
  · rw [if_neg (fun q => by have := q.1; simp [usB] at this), wn4, e0]
    have e1 : (absS r).rack = r.rack := rfl
    have e2 : fcB 1 = 0 := rfl
    have e3 : (absS r).on 0 (fcN r.rack 1 n).toNat = onL r.held 0 ((fcN r.rack 1 n).toNat : Nat) := rfl
    rw [e1, e2, e3]
    by_cases f1 : fcN r.rack 1 n < 0
    · rw [if_pos (by unfold hasB; rw [show decide (0 ≤ fcN r.rack 1 n) = false by simpa using f1]; simp)]
      exact rw_v1_1 n ca tt hh hl h3 hn hN r1 r2 f1
    by_cases f2 : (N : Int) ≤ fcN r.rack 1 n
    · rw [if_pos (by unfold hasB; rw [show decide (fcN r.rack 1 n < (N : Int)) = false by simpa using f2]; simp)]
      exact rw_v2_1 n ca tt hh hl h3 hn hN r1 r2 f1 f2
    rw [if_neg (by rw [(hasB_iff _ _ _).2 ⟨by omega, by omega, by omega, by omega⟩]; simp)]
    have e4 : (((fcN r.rack 1 n).toNat : Nat) : Int) = fcN r.rack 1 n := by omega
    rw [e4]
    by_cases ho : (onL r.held 1 n).length = 0
    · rw [if_pos ho]; exact rw_v3_1 n ca tt hh hl h3 hn hN r1 r2 f1 f2 ho
    rw [if_neg ho]
    by_cases hs : 8 < (onL r.held 1 n).length + (onL r.held 0 (fcN r.rack 1 n)).length
    · rw [if_pos (by rw [Nat.add_comm]; exact hs)]; exact rw_v4_1 n ca tt hh hl h3 hn hN r1 r2 f1 f2 ho hs
    · rw [if_neg (by rw [Nat.add_comm]; exact hs)]; exact rw_v5_1 n ca tt hh hl h3 hn hN r1 r2 f1 f2 ho hs
  · rw [if_neg (fun q => by have := q.1; simp [usB] at this), wn5, e0]
    by_cases ho : (onL r.held 1 n).length = 0
    · rw [if_pos ho]; exact rw_d0_1 n ca tt hh hl h3 hn hN r1 r2 ho
    · rw [if_neg ho]; exact rw_d1_1 n ca tt hh hl h3 hn hN r1 r2 ho

theorem rwrong_any {W : World} {N : Nat} {q1 q2 q3 : Option Addr} {m1 c1 m2 c2 m3 c3 : Nat} {r : Rs} (hh : HR W 0 (.slice q2 m2 c2) r.held) (hI : RIv r) (hN : N ≤ 128) (x : Sx) : Ans 51 #[rsV N (.slice q1 m1 c1) (.slice q2 m2 c2) (.slice q3 m3 c3) r.rack r.done, sxV x] W (.int .i64 (wrE N (absS r) x)) := by
  obtain ⟨dk, bd, nd, ca, tt⟩ := x
  unfold wrE
  dsimp only
  have ed : (absS r).done = r.done := rfl
  rw [ed]
  by_cases h1 : dk < 1
  · rw [if_pos (.inl h1)]; exact rw_lo dk bd nd ca tt h1
  by_cases h2 : 6 < dk
  · rw [if_pos (.inr h2)]; exact rw_hi dk bd nd ca tt h1 h2
  rw [if_neg (by omega)]
  by_cases h3 : 4096 ≤ r.done
  · rw [if_pos h3]; exact rw_much dk bd nd ca tt h1 h2 h3
  rw [if_neg h3]
  by_cases h6 : dk = 6
  · subst h6
    rw [if_pos rfl]
    unfold raE
    by_cases t1 : 4 < tt
    · rw [if_pos (.inr t1)]; exact rw_r1 bd nd ca tt h3 t1
    by_cases t2 : tt < -4
    · rw [if_pos (.inl t2)]; exact rw_r2 bd nd ca tt h3 t1 t2
    rw [if_neg (by omega)]; exact rw_r3 bd nd ca tt h3 t1 t2
  rw [if_neg h6]
  by_cases b0 : bd = 0
  · subst b0
    by_cases n1 : nd < 0
    · rw [if_pos (by unfold hasB; rw [show decide (0 ≤ nd) = false by simpa using n1]; simp)]
      exact rw_n1_0 dk nd ca tt h1 h2 h3 h6 n1
    by_cases n2 : (N : Int) ≤ nd
    · rw [if_pos (by unfold hasB; rw [show decide (nd < (N : Int)) = false by simpa using n2]; simp)]
      exact rw_n2_0 dk nd ca tt h1 h2 h3 h6 n1 n2
    rw [if_neg (by rw [(hasB_iff _ _ _).2 ⟨by omega, by omega, by omega, by omega⟩]; simp)]
    obtain ⟨n, rfl⟩ : ∃ n : Nat, nd = n := ⟨nd.toNat, by omega⟩
    exact rwn_0 hh hI hN h3 (by omega) dk ca tt h1 (by omega)
  by_cases b1 : bd = 1
  · subst b1
    by_cases n1 : nd < 0
    · rw [if_pos (by unfold hasB; rw [show decide (0 ≤ nd) = false by simpa using n1]; simp)]
      exact rw_n1_1 dk nd ca tt h1 h2 h3 h6 n1
    by_cases n2 : (N : Int) ≤ nd
    · rw [if_pos (by unfold hasB; rw [show decide (nd < (N : Int)) = false by simpa using n2]; simp)]
      exact rw_n2_1 dk nd ca tt h1 h2 h3 h6 n1 n2
    rw [if_neg (by rw [(hasB_iff _ _ _).2 ⟨by omega, by omega, by omega, by omega⟩]; simp)]
    obtain ⟨n, rfl⟩ : ∃ n : Nat, nd = n := ⟨nd.toNat, by omega⟩
    exact rwn_1 hh hI hN h3 (by omega) dk ca tt h1 (by omega)
  rw [if_pos (by
    cases q : hasB N bd nd with
    | false => rfl
    | true => have := (hasB_iff _ _ _).1 q; omega)]
  exact rw_bed dk bd nd ca tt h1 h2 h3 h6 b0 b1
theorem rdo_any {W : World} {N : Nat} {v : Value} {r : Rs} {x : Sx} (hs : SR W N v r) (hI : RIv r) (hN : N ≤ 128) (hz : wrE N (absS r) x = 0) : Calls Try.prog 52 #[v, sxV x] W (RDoP W N (rdS r x)) := by
  obtain ⟨lv, hv, sv, rfl, h1, h2, h3⟩ := hs
  obtain ⟨q1, c1, rfl⟩ := h1.form
  obtain ⟨q2, c2, rfl⟩ := h2.form
  obtain ⟨q3, c3, rfl⟩ := h3.form
  obtain ⟨d1, d2, -⟩ := wrE_zero hz
  rcases (show x.dk = 1 ∨ x.dk = 2 ∨ x.dk = 3 ∨ x.dk = 4 ∨ x.dk = 5 ∨ x.dk = 6 by omega) with h | h | h | h | h | h
  · exact rdo_knit h1 h2 h3 hI hN hz h
  · exact rdo_tuck h1 h2 h3 hI hN hz h
  · exact rdo_miss h1 h2 h3 hI hN hz h
  · exact rdo_move h1 h2 h3 hI hN hz h
  · exact rdo_drop h1 h2 h3 hI hN hz h
  · exact rdo_rack h1 h2 h3 hI hN hz h
end Go.Proofs.Ytancniamgfppiaa
