/-
  The reference: Alike's walk.
-/
import Derived.Test.YtfbggbalnfbbgaaRefF
namespace Go.Proofs.Ytfbggbalnfbbgaa
open Go.RowKit Go.Shelf

set_option maxHeartbeats 1000000 in
theorem ralike_err (w h : Int) (p : Option Addr) (n cap : Nat) (W : World) (er : Int) (her : wE w h n = er) (hp : 1 ≤ er) : AlikeErr 32 w h p n cap W er := by
  have HW := hide (fun W => rwrong_any w h p n cap W)
  rw [her] at HW
  have hp' : (er != 0) = true := by simp; omega
  have B0 := hide (bal (o := .cells #[.int .i64 w, .int .i64 h, .slice p n cap] 25) (Below.refl W.heap.size W))
  clear her
  unfold AlikeErr
  go_enter Try.func32, Try.ntmps32
  go_wp2_with fail
  refine (unhide HW _).mono ?_
  rintro e w1 ⟨rfl, hb⟩
  have S := btrans (unhide B0) hb
  clear hb
  go_wp2
  exact bodyPost_ret (v := .tuple #[.slice none 0 0, .int .i64 er]) (by simp [results, Try.results32, go_sem]) rfl ⟨rfl, S⟩

/-- the numbers that a slice has -/
def Ns (W : World) (q : Option Addr) (n : Nat) (f : Nat → Nat) : Prop := n = 0 ∨ ∃ b, q = some ⟨b, 0, none⟩ ∧ b < W.heap.size ∧ ∀ j, j < n → W.cell? ⟨b, j, none⟩ = some (.int .i64 ((f j : Nat) : Int))
theorem Ns.keep {W V : World} {q : Option Addr} {n : Nat} {f : Nat → Nat} (h : Ns W q n f) (hb : Below W.heap.size W V) : Ns V q n f := by
  rcases h with h | ⟨b, e, hl, hc⟩
  · exact .inl h
  · exact .inr ⟨b, e, Nat.lt_of_lt_of_le hl hb.size, fun j hj => keepC hb hl (hc j hj)⟩
theorem own_ns {W : World} {B m cap : Nat} {q : Option Addr} {f : Nat → Nat} (h : W.ownsRow B 3 1 (.slice q m cap) m (numsV f m)) : Ns W q m f := by
  rcases h.2 with ⟨hv, h0⟩ | ⟨g, c, cur, hv, _⟩
  · exact .inl h0
  · cases hv
    refine .inr ⟨g, rfl, (h.lt g rfl).2, fun k hk => ?_⟩
    rw [h.cellAt k (by omega)]
    simp [numsV, hk]

theorem own_offn {W : World} {B n cap m j : Nat} {q : Option Addr} {xs : List Value} (h : W.ownsRow B 3 1 (.slice q n cap) m xs) (hj : j < B) : Off q n j := by
  rcases h.2 with ⟨hv, h0⟩ | ⟨g, c, cur, hv, hg, _⟩
  · cases hv; exact .inl rfl
  · cases hv
    exact .inr fun a e => by cases e; dsimp only; omega

set_option maxHeartbeats 4000000 in
set_option maxRecDepth 100000 in
theorem ralike_new {W : World} {w h : Nat} {p : Option Addr} {n cap : Nat} {f : Nat → Bool} (r : Rt W w h p n cap f) :
    Calls Try.prog 32 #[tr w h p n cap] W fun e V => ∃ q cp, e = .returned (.tuple #[.slice q h cp, .int .i64 0]) ∧ (Ns V q h (nuN f w) ∧ ∀ j, j < W.heap.size → Off q h j) ∧ Below W.heap.size W V := by
  have hh := r.2.1
  have HW := hide (fun W => rwrong_any w h p n cap W)
  rw [wE_right w h n r.1 r.2.1 r.2.2.1] at HW
  have B0 := hide (bal (o := .cells #[.int .i64 w, .int .i64 h, .slice p n cap] 25) (Below.refl W.heap.size W))
  have T0 := hide (Tb.new r)
  obtain ⟨i0, hi, hz0, hz1, hz2⟩ := info_parts info3
  clear r
  go_enter Try.func32, Try.ntmps32
  go_wp2_with fail
  generalize W.alloc (.cells #[.int .i64 w, .int .i64 h, .slice p n cap] 25) = w0 at *
  refine (unhide HW _).mono ?_
  rintro e w1 ⟨rfl, hb⟩
  have S1 := hide (btrans (unhide B0) hb)
  have T1 := hide ((unhide T0).keep hb)
  clear hb B0 T0 HW
  go_wp2
  go_loopw [5, 6, 7] (fun v nx c wr => ∃ (y cp : Nat) (q : Option Addr), y ≤ h ∧ c = .int .i64 y ∧ nx = .int .i64 ((unU f w y).length : Nat) ∧ v = .slice q y cp ∧ wr.ownsRow w1.heap.size 3 1 (.slice q y cp) y (numsV (nuN f w) y) ∧ Below w1.heap.size w1 wr) (fun _ _ c _ => h - (intOf c).toNat)
  case atStart => exact ⟨0, 0, none, Nat.zero_le _, rfl, rfl, rfl, World.ownsRow_nil _ _ _ _, Below.refl _ _⟩
  case round =>
    obtain ⟨y, cp, q, hy, rfl, rfl, rfl, hown, hb⟩ := hrel
    have m1 := ((unhide T1).1.keep hb).2
    by_cases hlt : y < h
    · have q0 : (y : Int) < (h : Int) := by omega
      have hul := un_len f w y
      have Hk0 := hide (show kkN f w y 0 = (unU f w y).length from rfl)
      have Hkk := hide (kk_all f w y)
      have Hnx := hide (nu_next f w y)
      have hnu := nu_le f w y
      generalize (unU f w y).length = L at *
      have Hown := hide hown
      have Hb := hide hb
      clear hown hb
      go_wp2
      clear m1
      obtain ⟨wi, rfl⟩ : ∃ wi : World, wi = wr := ⟨_, rfl⟩
      go_loopw [8, 9] (fun kv c wr => ∃ z : Nat, z ≤ y ∧ c = .int .i64 z ∧ kv = .int .i64 ((kkN f w y z : Nat) : Int) ∧ Below wi.heap.size wi wr) (fun _ c _ => y - (intOf c).toNat)
      case atStart => exact ⟨0, Nat.zero_le _, rfl, by rw [unhide Hk0], Below.refl _ _⟩
      case round =>
        obtain ⟨z, hz, rfl, rfl, hb⟩ := hrel
        have m1 := ((unhide T1).1.keep (btrans (unhide Hb) hb)).2
        by_cases hlz : z < y
        · have qz : (z : Int) < (y : Int) := by omega
          have qz0 : (0 : Int) ≤ (z : Int) := by omega
          have Hra := hide (rows_alike_ok ((unhide T1).2.keep (btrans (unhide Hb) hb)) y z hlt (by omega))
          have Hst := hide (show kkN f w y (z + 1) = if rwE f w y z then nuN f w z else kkN f w y z from rfl)
          have Hb2 := hide hb
          generalize hkz : kkN f w y z = K at *
          have Hkz := hide hkz
          clear hkz
          clear hb
          cases hc : rwE f w y z with
          | false =>
            rw [hc] at Hra
            have Hz := hide (show kkN f w y (z + 1) = K by rw [unhide Hst, hc, if_neg Bool.false_ne_true])
            clear hc
            go_wp2_with fail
            clear m1
            refine (unhide Hra).mono ?_
            rintro e w5 ⟨rfl, hb⟩
            have S5 := hide (btrans (unhide Hb2) hb)
            clear hb
            go_wp2
            go_roundw
            case rel => exact ⟨z + 1, by omega, by go_num, by rw [unhide Hz], unhide S5⟩
            case measure => simp [intOf]; omega
          | true =>
            rw [hc] at Hra
            have Hz := hide (show kkN f w y (z + 1) = nuN f w z by rw [unhide Hst, hc, if_pos rfl])
            clear hc
            go_wp2_with fail
            clear m1
            refine (unhide Hra).mono ?_
            rintro e w5 ⟨rfl, hb⟩
            have S5 := hide (btrans (unhide Hb2) hb)
            clear hb
            have hns := (own_ns (unhide Hown)).keep (unhide S5)
            obtain ⟨g, rfl, hgl, hgc⟩ : ∃ b, q = some ⟨b, 0, none⟩ ∧ b < w5.heap.size ∧ ∀ j, j < y → w5.cell? ⟨b, j, none⟩ = some (.int .i64 ((nuN f w j : Nat) : Int)) := by
              rcases hns with h0 | h1
              · omega
              · exact h1
            have c5 := hgc z hlz
            clear hns hgc
            generalize nuN f w z = NZ at *
            go_wp2
            go_roundw
            case rel => exact ⟨z + 1, by omega, by go_num, by rw [unhide Hz], unhide S5⟩
            case measure => simp [intOf]; omega
        · obtain rfl : z = y := by omega
          have cl : ¬ ((z : Int) < (z : Int)) := by omega
          rw [unhide Hkk]
          have Hv := hide (show numsV (nuN f w) (z + 1) = numsV (nuN f w) z ++ [.int .i64 ((nuN f w z : Nat) : Int)] from numsV_succ _ _)
          have hown := own_keep (unhide Hown) hb
          have hsz : w1.heap.size ≤ wr.heap.size := by have := (unhide Hb).size; have := hb.size; omega
          have S5 := btrans (unhide Hb) hb
          clear hb Hown m1 Hk0 Hkk
          generalize nuN f w z = NU at *
          by_cases hc : NU = L
          · have hc' : ((NU : Int) == (L : Int)) = true := by simp [hc]
            have Hn1 := hide (show (unU f w (z + 1)).length = L + 1 by rw [unhide Hnx, if_pos hc])
            clear hc
            have q5 : (L : Int) + 1 ≤ 65 := by omega
            have Hc := hide hc'
            go_wp2_with (at_builtin; refine wpList_append_own _ rfl _ _ 22 rfl w1.heap.size 3 i0 (.int .i64 0) 1 8 Try.underlying22 hi hz0 hz1 hz2 rfl (by decide) _ _ _ rfl (hown.alloc _) ⟨wr.heap.size, 0, none⟩ 1 1 [.int .i64 (NU : Int)] rfl rfl (cell_one_new _ _ _) (by simp [Value.oneCell']) (by unfold maxLen; omega) (by omega) (by simp; omega) ?_)
            intro v' w4 hown' hgrow _
            have S6 := hide ((S5.alloc hsz (.cells #[.int .i64 (NU : Int)] 3)).grown hgrow (by simp; omega) (fun k hk => (hown.lt k hk).1))
            obtain ⟨q', cap', rfl⟩ := own_form hown'
            have HO := hide hown'
            clear hown hown' hgrow S5
            go_wp2
            go_roundw
            case rel =>
              refine ⟨z + 1, cap', q', by omega, by go_num, by rw [unhide Hn1]; go_num, rfl, ?_, unhide S6⟩
              rw [unhide Hv]
              exact unhide HO
            case measure => simp [intOf]; omega
          · have hc' : ((NU : Int) == (L : Int)) = false := by simp; omega
            have Hn1 := hide (show (unU f w (z + 1)).length = L by rw [unhide Hnx, if_neg hc])
            have Hc := hide hc
            clear hc
            go_wp2_with (at_builtin; refine wpList_append_own _ rfl _ _ 22 rfl w1.heap.size 3 i0 (.int .i64 0) 1 8 Try.underlying22 hi hz0 hz1 hz2 rfl (by decide) _ _ _ rfl (hown.alloc _) ⟨wr.heap.size, 0, none⟩ 1 1 [.int .i64 (NU : Int)] rfl rfl (cell_one_new _ _ _) (by simp [Value.oneCell']) (by unfold maxLen; omega) (by omega) (by simp; omega) ?_)
            intro v' w4 hown' hgrow _
            have S6 := hide ((S5.alloc hsz (.cells #[.int .i64 (NU : Int)] 3)).grown hgrow (by simp; omega) (fun k hk => (hown.lt k hk).1))
            obtain ⟨q', cap', rfl⟩ := own_form hown'
            have HO := hide hown'
            clear hown hown' hgrow S5
            go_wp2
            go_roundw
            case rel =>
              refine ⟨z + 1, cap', q', by omega, by go_num, by rw [unhide Hn1], rfl, ?_, unhide S6⟩
              rw [unhide Hv]
              exact unhide HO
            case measure => simp [intOf]; omega
    · obtain rfl : y = h := by omega
      have cl : ¬ ((y : Int) < (y : Int)) := by omega
      have Sf := hide (btrans (unhide S1) hb)
      have HN := hide (own_ns hown)
      have hS1 := (unhide S1).size
      have HNo := hide (show ∀ j, j < W.heap.size → Off q y j from fun j hj => own_offn hown (by omega))
      clear hown hb
      go_wp2
      exact bodyPost_ret (v := .tuple #[.slice q y cp, .int .i64 0]) (by simp [results, Try.results32, go_sem]) rfl ⟨q, ⟨cp, rfl⟩, ⟨unhide HN, unhide HNo⟩, unhide Sf⟩
theorem ralike_ok {W : World} {w h : Nat} {p : Option Addr} {n cap : Nat} {f : Nat → Bool} (r : Rt W w h p n cap f) :
    Calls Try.prog 32 #[tr w h p n cap] W fun e V => ∃ q cp, e = .returned (.tuple #[.slice q h cp, .int .i64 0]) ∧ Ns V q h (nuN f w) ∧ Below W.heap.size W V := by
  refine (ralike_new r).mono ?_
  rintro e V ⟨q, cp, rfl, hr, hb⟩
  exact ⟨q, cp, rfl, hr.1, hb⟩
end Go.Proofs.Ytfbggbalnfbbgaa
