/-
  slices.Sort of a slice that is nil; translateBed.
-/
import Derived.Test.YtancniamgfppiaaYB
namespace Go.Proofs.Ytancniamgfppiaa
open Go.RowKit

set_option maxRecDepth 100000 in
set_option maxHeartbeats 1000000 in
theorem len64_zero (W : World) : Calls Try.prog 70 #[.int .u64 0] W fun e w' => (∃ z, e = .returned (.int .i64 z)) ∧ w' = W := by
  go_enter Try.func70, Try.ntmps70
  go_wp2
  go_ret
  exact ⟨⟨_, rfl⟩, rfl⟩
set_option maxRecDepth 100000 in
set_option maxHeartbeats 1000000 in
theorem len_zero (W : World) : Calls Try.prog 50 #[.int .u64 0] W fun e w' => (∃ z, e = .returned (.int .i64 z)) ∧ w' = W := by
  go_enter Try.func50, Try.ntmps50
  go_wp2_with fail
  refine (len64_zero _).mono ?_
  rintro e w1 ⟨⟨z, rfl⟩, rfl⟩
  go_wp2
  go_ret
  exact ⟨⟨_, rfl⟩, rfl⟩
set_option maxRecDepth 100000 in
set_option maxHeartbeats 1000000 in
theorem insert_none (W : World) : Calls Try.prog 60 #[.slice none 0 0, .int .i64 0, .int .i64 0] W fun e w' => e = .returned (.tuple #[]) ∧ w' = W := by
  go_enter Try.func60, Try.ntmps60
  go_wp2
  go_loopw [6] (fun i wr => i = .int .i64 1 ∧ wr = W) (fun _ _ => 0)
  case atStart => exact ⟨rfl, rfl⟩
  case round =>
    obtain ⟨rfl, rfl⟩ := hrel
    first | go_end0 | (go_wp2; go_end0)
    exact ⟨rfl, rfl⟩
set_option maxRecDepth 100000 in
set_option maxHeartbeats 1000000 in
theorem pdq_none (W : World) (z : Int) : Calls Try.prog 49 #[.slice none 0 0, .int .i64 0, .int .i64 0, .int .i64 z] W fun e w' => e = .returned (.tuple #[]) ∧ w' = W := by
  go_enter Try.func49, Try.ntmps49
  go_wp2
  go_loopw [1, 2] (fun a b wr => a = .int .i64 0 ∧ b = .int .i64 0 ∧ wr = W) (fun _ _ _ => 0)
  case atStart => exact ⟨rfl, rfl, rfl⟩
  case round =>
    obtain ⟨rfl, rfl, rfl⟩ := hrel
    go_wp2_with fail
    refine (insert_none _).mono ?_
    rintro e w1 ⟨rfl, rfl⟩
    go_wp2
    refine bodyPost_ret (v := .tuple #[]) (by simp [results, Try.results49]) rfl ⟨rfl, rfl⟩
set_option maxRecDepth 100000 in
set_option maxHeartbeats 1000000 in
theorem sort_none (W : World) : Calls Try.prog 38 #[.slice none 0 0] W fun e w' => e = .returned (.tuple #[]) ∧ w' = W := by
  go_enter Try.func38, Try.ntmps38
  go_wp2_with fail
  refine (len_zero _).mono ?_
  rintro e w1 ⟨⟨z, rfl⟩, rfl⟩
  go_wp2_with fail
  refine (pdq_none _ z).mono ?_
  rintro e w1 ⟨rfl, rfl⟩
  first | go_end0 | (go_wp2; go_end0)
  exact ⟨rfl, rfl⟩

set_option maxRecDepth 100000 in
set_option maxHeartbeats 4000000 in
/-- a bed is told by other numbers: each needle's row is its own -/
theorem translateBed_any {W : World} {B C g0 k cp cl : Nat} {v : Value} {xss : List (List Nat)} {f : Nat → Nat} {o : Nat → Nat × Nat} (hx : LRo W B v xss o cl) (hn : NR W C (.slice (some ⟨g0, 0, none⟩) k cp) (rgL k f)) (ho : o g0 = (9, 9)) (hc : cl ≠ 9) (hin : ∀ x, x ∈ xss → (∀ y, y ∈ x → y < k) ∧ x.length ≤ 100000) (hl : xss.length ≤ 128) :
    Calls Try.prog 37 #[v, .slice (some ⟨g0, 0, none⟩) k cp] W fun e w' => e = .returned (.tuple #[]) ∧ LRo w' B v (xss.map fun l => l.map f) o cl ∧ Kept (fun i => Tg W i 3 ∧ (o i).1 = cl) W w' := by
  rcases hx with ⟨rfl, rfl⟩ | ⟨q, cap, h, rfl, hR, hq, hr⟩
  · clear hn hin
    go_enter Try.func37, Try.ntmps37
    go_wp2
    go_loopw [8] (fun i wr => i = .int .i64 0 ∧ wr = W) (fun _ _ => 0)
    case atStart => exact ⟨rfl, rfl⟩
    case round =>
      obtain ⟨rfl, rfl⟩ := hrel
      first | go_end0 | (go_wp2; go_end0)
      exact ⟨rfl, .inl ⟨rfl, rfl⟩, Kept.refl _ _⟩
  · have HN := hide hn
    have HR := hide hR
    have Hq := hide hq
    have Hr := hide (show ∀ n x, xss[n]? = some x → NR W B (h n) x ∧ Og o (cl, n) (h n) from hr)
    have Hin := hide hin
    have Ho := hide ho
    clear hn hR hq hr hin ho
    obtain ⟨n, hn⟩ : ∃ n, n = xss.length := ⟨_, rfl⟩
    have Hn := hide hn
    rw [← hn] at hl HR
    rw [← hn]
    clear hn
    go_enter Try.func37, Try.ntmps37
    go_wp2
    go_loopw [8] (fun i wr => ∃ x : Nat, x ≤ n ∧ i = .int .i64 x ∧ (∀ j l, xss[j]? = some l → NR wr B (h j) (if j < x then l.map f else l)) ∧ Kept (fun i => Tg W i 3 ∧ (o i).1 = cl) W wr) (fun i _ => n - (intOf i).toNat)
    case atStart => exact ⟨0, Nat.zero_le _, rfl, fun j l hj => by rw [if_neg (Nat.not_lt_zero _)]; exact (unhide Hr j l hj).1, Kept.refl _ _⟩
    case round =>
      obtain ⟨x, hx, rfl, hD, hK⟩ := hrel
      have HD := hide hD
      have HK := hide hK
      clear hD hK
      by_cases hlt : x < n
      · have p1 : (x : Int) < (n : Int) := by omega
        have p2 : (0 : Int) ≤ (x : Int) := by omega
        have hxl : x < xss.length := by rw [← unhide Hn]; exact hlt
        have hg := List.getElem?_eq_getElem hxl
        have c1 := (((unhide HR).kept (unhide HK) (fun q => tg_not (unhide HR).1.2 (by decide) q.1)).2 x hlt).1
        have hD0 := unhide HD x _ hg
        rw [if_neg (Nat.lt_irrefl _)] at hD0
        have hNw := (unhide HN).but (unhide HK) (fun i hi q => by
          have e1 : g0 = i := by simpa [Value.ownBlock] using hi
          rw [← e1, unhide Ho] at q
          exact hc q.2.symm)
        have hio := unhide Hin _ (List.getElem_mem hxl)
        have HT := hide (translate_any hD0 hNw (fun e => by
          have := (unhide Hr x _ hg).2 g0 e
          rw [unhide Ho] at this
          exact hc (congrArg Prod.fst this).symm) hio.1 hio.2)
        have HF := hide hD0.form
        clear hNw hio
        obtain ⟨hq1, hc1, hv⟩ := unhide HF
        rw [hv] at c1
        rw [hv] at HT
        have Hv := hide hv
        have HL := hide (show (xss[x]).length = (xss[x]).length from rfl)
        clear hv HF
        obtain ⟨ll, hll⟩ : ∃ ll, ll = (xss[x]).length := ⟨_, rfl⟩
        rw [← hll] at HT c1 Hv
        clear hll HL
        go_wp2_with fail
        refine (unhide HT).mono ?_
        rintro e w2 ⟨rfl, hN2, hK2⟩
        have HD2 := hide (show ∀ j l, xss[j]? = some l → NR w2 B (h j) (if j < x + 1 then l.map f else l) from fun j l hj => by
          by_cases c : j = x
          · subst c
            rw [hg] at hj
            cases hj
            rw [if_pos (by omega), unhide Hv]
            exact hN2
          · have e1 : (if j < x + 1 then l.map f else l) = (if j < x then l.map f else l) := by
              by_cases d : j < x
              · rw [if_pos d, if_pos (by omega)]
              · rw [if_neg d, if_neg (by omega)]
            rw [e1]
            refine (unhide HD j l hj).but hK2 (fun i hi q => c ?_)
            rw [← unhide Hv] at q
            have a1 := (unhide Hr j l hj).2 i hi
            have a2 := (unhide Hr x _ hg).2 i q
            rw [a1] at a2
            exact (Prod.mk.inj a2).2)
        have HK2 := hide ((unhide HK).trans (⟨hK2.1, hK2.2.1, hK2.2.2.1, hK2.2.2.2.1, fun i hi hn => hK2.2.2.2.2 i hi (fun q => by
          rw [← unhide Hv] at q
          have a2 := (unhide Hr x _ hg).2 i q
          have t3 := own_tg (unhide Hr x _ hg).1 q
          exact hn ⟨t3, by rw [a2]⟩)⟩ : Kept (fun i => Tg W i 3 ∧ (o i).1 = cl) wr w2))
        clear hN2 hK2 HT hD0 hg hxl HD HK c1
        go_wp2
        go_roundw
        case rel => exact ⟨x + 1, by omega, by go_num, unhide HD2, unhide HK2⟩
        case measure => simp [intOf]; omega
      · obtain rfl : n = x := by omega
        have cl : ¬ ((n : Int) < (n : Int)) := by omega
        first | go_end0 | (go_wp2; go_end0)
        refine ⟨rfl, .inr ⟨q, cap, h, by rw [List.length_map, ← unhide Hn], ?_, unhide Hq, fun j l hj => ?_⟩, unhide HK⟩
        · rw [List.length_map, ← unhide Hn]
          exact (unhide HR).kept (unhide HK) (fun q => tg_not (unhide HR).1.2 (by decide) q.1)
        · rw [List.getElem?_map] at hj
          cases e : xss[j]? with
          | none => rw [e] at hj; cases hj
          | some l' =>
            rw [e] at hj
            cases hj
            have := unhide HD j l' e
            rw [if_pos (by
              rcases Nat.lt_or_ge j xss.length with d | d
              · rw [unhide Hn]; exact d
              · rw [List.getElem?_eq_none d] at e; cases e)] at this
            exact ⟨this, (unhide Hr j l' e).2⟩
end Go.Proofs.Ytancniamgfppiaa
