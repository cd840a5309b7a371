/-
  All and Moves of the reference: the very list that the program tells.
-/
import Derived.Test.YtagiekbijmdmdaaFA
import Derived.Test.YtagiekbijmdmdaaGP
namespace Go.Proofs.Ytagiekbijmdmdaa
open Go.RowKit

theorem keeps_ab (w h N : Nat) (px : Nat → Int) (g : Int) (t : Nat) (f : Bool) (x y : Nat) (hN : 1 ≤ N) (hx : x < N) : abB (pat w h N px) g t f x y N (N * N) = keepsK w h N px g t f (y * N + x) := by
  unfold keepsK
  rw [Bool.eq_iff_iff, abB_kp hN (pat_per w h N px), kpV_iff w h N px g t f _ _ hN]
  rw [Nat.mul_comm y N, Nat.mul_add_mod, Nat.mod_eq_of_lt hx, Nat.mul_add_div (by omega), Nat.div_eq_of_lt hx, Nat.add_zero]

set_option maxHeartbeats 8000000 in
set_option maxRecDepth 100000 in
theorem rall_plain (g w h : Int) (p : Option Addr) (n cap : Nat) (G N : Nat) (K : Nat → Bool → Nat → Bool) (W : World) (hG : G = 4 ∨ G = 6) (hgG : g = (G : Int)) (hN : 1 ≤ N ∧ N ≤ 24) (Rc : World → Prop) (hRc : ∀ V V', Rc V → Below V.heap.size V V' → Rc V')
    (H1 : ∀ V, Rc V → ∀ (t : Nat) (f : Bool) (x y : Nat), t < G → x < N → y < N → Calls Try.prog 42 #[Ch.ch g w h p n cap, .int .i64 N, .agg #[.int .i64 t, .bool f, .int .i64 x, .int .i64 y]] V fun e V' => e = .returned (.bool (K t f (y * N + x))) ∧ Below V.heap.size V V')
    (hc : Rc W) : Calls Try.prog 38 #[Ch.ch g w h p n cap, .int .i64 N] W fun e V => ∃ v, e = .returned v ∧ V.ownsRow W.heap.size 45 4 v (allM K N G 2).length (mvsV (allM K N G 2)) ∧ Below W.heap.size W V := by
  subst hgG
  obtain ⟨i0, hi, hz0, hz1, hz2⟩ := info_parts info45
  have hNN : N * N ≤ 576 := Nat.mul_le_mul hN.2 hN.2
  have hGN : G * (N * N) ≤ 3456 := Nat.mul_le_mul (show G ≤ 6 by omega) hNN
  have K1 := hide H1
  have HRc := hide hRc
  have B0 := bal (o := .cells #[.int .i64 G, .int .i64 w, .int .i64 h, .slice p n cap] 24) (Below.refl W.heap.size W)
  have Hr := hide (hRc _ _ hc B0)
  have HB := hide B0
  have HC0 := hide (Ch.OwnC.new W G w h p n cap 24)
  have hw0 : W.heap.size ≤ (W.alloc (.cells #[.int .i64 G, .int .i64 w, .int .i64 h, .slice p n cap] 24)).heap.size := by simp
  clear hc B0 H1 hRc
  go_enter Try.func38, Try.ntmps38
  go_wp2
  generalize W.alloc (.cells #[.int .i64 G, .int .i64 w, .int .i64 h, .slice p n cap] 24) = w0 at *
  go_loopw [5, 6] (fun v i wr => ∃ a : Nat, a ≤ 2 ∧ i = .int .i64 a ∧ wr.ownsRow w0.heap.size 45 4 v (allM K N G a).length (mvsV (allM K N G a)) ∧ Below w0.heap.size w0 wr) (fun _ i _ => 2 - (intOf i).toNat)
  case atStart => exact ⟨0, by omega, rfl, World.ownsRow_nil _ _ _ _, Below.refl _ _⟩
  case round =>
    obtain ⟨a, ha, rfl, hown, hbel⟩ := hrel
    by_cases hla : a < 2
    · have hla' : (a : Int) < 2 := by omega
      obtain ⟨fl, hfl⟩ : ∃ fl : Bool, fl = flipOf a := ⟨_, rfl⟩
      have hf1 : ((a : Int) == 1) = fl := by rw [hfl, Bool.eq_iff_iff]; simp [flipOf]; omega
      have HAs := hide (show allM K N G (a + 1) = allM K N G a ++ turnsM K N fl G by rw [allM_succ, hfl])
      have hlA := allM_len K N G a
      have hlA2 : (allM K N G a).length ≤ 3456 := by
        have := Nat.mul_le_mul (show a ≤ 1 by omega) hGN
        omega
      clear hlA hfl
      go_wp2
      generalize hLA : allM K N G a = LA at *
      clear hLA
      have Hown := hide hown
      have Hbel := hide hbel
      clear hown hbel
      go_loopw [5, 7] (fun v i wr => ∃ t : Nat, t ≤ G ∧ i = .int .i64 t ∧ wr.ownsRow w0.heap.size 45 4 v (LA ++ turnsM K N fl t).length (mvsV (LA ++ turnsM K N fl t)) ∧ Below w0.heap.size w0 wr) (fun _ i _ => G - (intOf i).toNat)
      case atStart => exact ⟨0, by omega, rfl, by simpa [turnsM] using unhide Hown, unhide Hbel⟩
      case round =>
        clear Hown Hbel
        obtain ⟨t, ht, rfl, hown, hbel⟩ := hrel
        have c := ((unhide HC0).keep hbel).2
        by_cases hlt : t < G
        · have hlt' : (t : Int) < (G : Int) := by omega
          have HTs := hide (turnsM_succ K N fl t)
          have hlT := turnsM_len K N fl t
          have hlT2 : (LA ++ turnsM K N fl t).length ≤ 6912 := by
            have := Nat.mul_le_mul_right (N * N) (show t ≤ G by omega)
            rw [List.length_append]
            omega
          clear hlT
          go_wp2
          clear c
          have HLT := hide (show LA ++ turnsM K N fl (t + 1) = (LA ++ turnsM K N fl t) ++ rowM K N t fl (N * N) by rw [unhide HTs, List.append_assoc])
          clear HTs
          generalize LA ++ turnsM K N fl t = LT at *
          have Hown := hide hown
          have Hbel := hide hbel
          clear hown hbel
          go_loopw [5, 8] (fun v i wr => ∃ y : Nat, y ≤ N ∧ i = .int .i64 y ∧ wr.ownsRow w0.heap.size 45 4 v (LT ++ rowM K N t fl (y * N)).length (mvsV (LT ++ rowM K N t fl (y * N))) ∧ Below w0.heap.size w0 wr) (fun _ i _ => N - (intOf i).toNat)
          case atStart => exact ⟨0, by omega, rfl, by simpa [rowM] using unhide Hown, unhide Hbel⟩
          case round =>
            clear Hown Hbel
            obtain ⟨y, hy, rfl, hown, hbel⟩ := hrel
            by_cases hly : y < N
            · have hly' : (y : Int) < (N : Int) := by omega
              have hyN : y * N + N ≤ 576 := by have := Nat.mul_le_mul_right N (show y + 1 ≤ N by omega); rw [Nat.add_mul, Nat.one_mul] at this; omega
              go_wp2
              have Hown := hide hown
              have Hbel := hide hbel
              clear hown hbel
              go_loopw [5, 9] (fun v i wr => ∃ x : Nat, x ≤ N ∧ i = .int .i64 x ∧ wr.ownsRow w0.heap.size 45 4 v (LT ++ rowM K N t fl (y * N + x)).length (mvsV (LT ++ rowM K N t fl (y * N + x))) ∧ Below w0.heap.size w0 wr) (fun _ i _ => N - (intOf i).toNat)
              case atStart => exact ⟨0, by omega, rfl, unhide Hown, unhide Hbel⟩
              case round =>
                clear Hown Hbel
                obtain ⟨x, hx, rfl, hown, hbel⟩ := hrel
                by_cases hlx : x < N
                · have hlx' : (x : Int) < (N : Int) := by omega
                  have hlL : (LT ++ rowM K N t fl (y * N + x)).length ≤ 8000 := by have := rowM_len K N t fl (y * N + x); rw [List.length_append]; omega
                  have Hsucc := hide (show LT ++ rowM K N t fl (y * N + (x + 1)) = (LT ++ rowM K N t fl (y * N + x)) ++ (if K t fl (y * N + x) = true then [(t, fl, x, y)] else []) by
                    rw [← Nat.add_assoc, rowM_succ, List.append_assoc, Nat.mul_comm y N, Nat.mul_add_mod, Nat.mod_eq_of_lt hlx, Nat.mul_add_div (by omega), Nat.div_eq_of_lt hlx, Nat.add_zero])
                  generalize LT ++ rowM K N t fl (y * N + x) = LX at *
                  have hbN := bal (o := .cells #[.int .i64 t, .bool fl, .int .i64 x, .int .i64 y] 45) (Below.refl wr.heap.size wr)
                  have SN := btrans hbel hbN
                  have c := ((unhide HC0).keep SN).2
                  have HK1 := hide (unhide K1 _ (unhide HRc _ _ (unhide Hr) SN) t fl x y hlt hlx hly)
                  have HownN := hide (own_keep hown hbN)
                  have HX := hide (OwnM.new wr t fl x y 45)
                  clear hown hbel hbN
                  go_wp2_with fail
                  clear c
                  generalize wr.alloc (.cells #[.int .i64 t, .bool fl, .int .i64 x, .int .i64 y] 45) = wN at *
                  refine (unhide HK1).mono ?_
                  rintro e w4 ⟨rfl, hb⟩
                  have S4 := btrans SN hb
                  have hown4 := own_keep (unhide HownN) hb
                  have Z4 := (unhide HX).keep hb
                  clear hb SN HownN HX HK1
                  cases hk : K t fl (y * N + x) with
                  | false =>
                    have Hs := hide (show LT ++ rowM K N t fl (y * N + (x + 1)) = LX by rw [unhide Hsucc, hk]; simp)
                    have HO4 := hide hown4
                    have HS4 := hide S4
                    clear hk Hsucc hown4 S4 Z4
                    go_wp2
                    go_roundw
                    case rel => exact ⟨x + 1, by omega, by go_num, by rw [unhide Hs]; exact unhide HO4, unhide HS4⟩
                    case measure => simp [intOf]; omega
                  | true =>
                    have Hs := hide (show LT ++ rowM K N t fl (y * N + (x + 1)) = LX ++ [(t, fl, x, y)] by rw [unhide Hsucc, hk]; simp)
                    have z := Z4.2.1
                    have hs4 := S4.size
                    clear hk Hsucc Z4
                    go_wp2_with (at_builtin; refine wpList_append_own _ rfl _ _ 28 rfl w0.heap.size 45 i0 (.agg #[.int .i64 0, .bool false, .int .i64 0, .int .i64 0]) 4 32 Try.underlying28 hi hz0 hz1 hz2 rfl (by decide) _ _ _ rfl (hown4.alloc _) ⟨w4.heap.size, 0, none⟩ 1 1 (mvC (t, fl, x, y)) rfl rfl ?c1 ?c2 ?c3 ?c4 ?c5 ?_)
                    case c1 =>
                      intro j u hj
                      match j, hj with
                      | 0, hj => simp [mvC] at hj; subst hj; simp [Addr.add, go_sem]
                      | 1, hj => simp [mvC] at hj; subst hj; simp [Addr.add, go_sem]
                      | 2, hj => simp [mvC] at hj; subst hj; simp [Addr.add, go_sem]
                      | 3, hj => simp [mvC] at hj; subst hj; simp [Addr.add, go_sem]
                      | j + 4, hj => simp [mvC] at hj
                    case c2 => intro u hu; simp [mvC] at hu; rcases hu with rfl | rfl | rfl | rfl <;> rfl
                    case c3 => unfold maxLen; omega
                    case c4 => omega
                    case c5 => simp; omega
                    intro v' w5 hown' hgrow _
                    have S5 := (S4.alloc (by omega) _).grown hgrow (by simp; omega) (fun k hk => (hown4.lt k hk).1)
                    have HO5 := hide hown'
                    have HS5 := hide S5
                    clear hgrow hown4 S4 z hown' S5
                    go_wp2
                    go_roundw
                    case rel => exact ⟨x + 1, by omega, by go_num, by rw [unhide Hs, List.length_append, mvsV_snoc]; exact unhide HO5, unhide HS5⟩
                    case measure => simp [intOf]; omega
                · have e : x = N := by omega
                  subst e
                  have cl : ¬ ((x : Int) < (x : Int)) := by omega
                  have Hs := hide (show (y + 1) * x = y * x + x by rw [Nat.add_mul, Nat.one_mul])
                  have HO := hide hown
                  have HS := hide hbel
                  clear hown hbel
                  go_wp2
                  go_roundw
                  case rel => exact ⟨y + 1, by omega, by go_num, by rw [unhide Hs]; exact unhide HO, unhide HS⟩
                  case measure => simp [intOf]; omega
            · have e : y = N := by omega
              subst e
              have cl : ¬ ((y : Int) < (y : Int)) := by omega
              have HO := hide hown
              have HS := hide hbel
              clear hown hbel
              go_wp2
              go_roundw
              case rel => exact ⟨t + 1, by omega, by go_num, by rw [unhide HLT]; exact unhide HO, unhide HS⟩
              case measure => simp [intOf]; omega
        · have e : t = G := by omega
          subst e
          have cl : ¬ ((t : Int) < (t : Int)) := by omega
          have HO := hide hown
          have HS := hide hbel
          clear hown hbel
          go_wp2
          clear c
          go_roundw
          case rel => exact ⟨a + 1, by omega, by go_num, by rw [unhide HAs]; exact unhide HO, unhide HS⟩
          case measure => simp [intOf]; omega
    · have e : a = 2 := by omega
      subst e
      have HO := hide hown
      have HS := hide (btrans (unhide HB) hbel)
      clear hown hbel
      go_wp2
      go_ret
      exact ⟨_, rfl, Joins.ownsRow_le (unhide HO) hw0, unhide HS⟩
end Go.Proofs.Ytagiekbijmdmdaa
