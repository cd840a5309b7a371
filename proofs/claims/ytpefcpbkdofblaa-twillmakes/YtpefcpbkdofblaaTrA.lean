/-
  The reference: Up, Rest, Moves, In.
-/
import Derived.Test.YtpefcpbkdofblaaTwE
namespace Go.Proofs.Ytpefcpbkdofblaa
open Go.RowKit Go.Shelf

set_option maxHeartbeats 1000000 in
theorem up_ok {W : World} {q : Option Addr} {n : Nat} (c : Nat) {k : Nat → Nat} (hq : Is W q n (fun i => (k i : Int))) (hr : Rr n k) (j : Nat) (hj : j < sN k n) :
    Calls Try.prog 22 #[.slice q n c, .int .i64 j] W fun e w' => e = .returned (.bool (upF k n j)) ∧ Below W.heap.size W w' := by
  have HQ := hide hq
  have hn : n ≤ 16 := hr.2.2.1
  have Hle := hide hj
  have Hup := hide (fun i hi h1 h2 => upF_at k n i j hi h1 h2)
  have hj64 : j < 64 := Nat.lt_of_lt_of_le hj hr.2.2.2.2
  generalize upF k n j = ans at *
  clear hq hr hj
  go_enter Try.func22, Try.ntmps22
  go_wp2
  go_loopw [1, 9] (fun v i wr => ∃ x d : Nat, x ≤ n ∧ i = .int .i64 x ∧ v = .int .i64 d ∧ d + sN k x = j ∧ Below W.heap.size W wr) (fun _ i _ => n - (intOf i).toNat)
  case atStart => exact ⟨0, j, Nat.zero_le _, rfl, rfl, by simp [sN], Below.refl _ _⟩
  case round =>
    obtain ⟨x, d, hx, rfl, rfl, hd, hb⟩ := hrel
    have Hd := hide hd
    have hd64 : d ≤ 64 := by omega
    clear hd
    by_cases hlt : x < n
    · obtain ⟨a, o, rfl, l1, k1⟩ := ((unhide HQ).keep hb).at hlt
      have q1 : (x : Int) < (n : Int) := by omega
      have q2 : (0 : Int) ≤ (x : Int) := by omega
      have Hup1 := hide (unhide Hup x hlt)
      have Hs := hide (show sN k (x + 1) = sN k x + k x from rfl)
      generalize k x = kx at *
      by_cases hdk : d < kx
      · have hdk' : (d : Int) < (kx : Int) := by omega
        have Ha := hide (show ans = decide (x % 2 = 0) from unhide Hup1 (by have := unhide Hd; omega) (by rw [unhide Hs]; have := unhide Hd; omega))
        by_cases hp : x % 2 = 0
        · have hp' : (x : Int) % 2 = 0 := by omega
          have Ha2 := hide (show ans = true by rw [unhide Ha]; simpa using hp)
          clear hp Ha
          go_wp2
          go_ret
          exact ⟨ret_bool (unhide Ha2).symm, hb⟩
        · have hp' : (x : Int) % 2 = 1 := by omega
          have Ha2 := hide (show ans = false by rw [unhide Ha]; simpa using hp)
          clear hp Ha
          go_wp2
          go_ret
          exact ⟨ret_bool (unhide Ha2).symm, hb⟩
      · have hdk' : ¬ ((d : Int) < (kx : Int)) := by omega
        obtain ⟨d', hd'⟩ : ∃ d' : Nat, d' = d - kx := ⟨_, rfl⟩
        have e1 : (d : Int) - (kx : Int) = (d' : Int) := by omega
        have Hn := hide (show d' + sN k (x + 1) = j by rw [unhide Hs]; have := unhide Hd; omega)
        clear hd'
        go_wp2
        go_roundw
        case rel => exact ⟨x + 1, d', by omega, by go_num, by first | rfl | rw [e1], unhide Hn, hb⟩
        case measure => simp [intOf]; omega
    · exfalso
      obtain rfl : n = x := by omega
      have := unhide Hd
      have := unhide Hle
      omega

theorem tmod_neg (a : Int) (b : Nat) (hb : 0 < b) (ha : a < 0) : (a.tmod (b : Int) < 0 ∧ a % (b : Int) = a.tmod (b : Int) + (b : Int)) ∨ (a.tmod (b : Int) = 0 ∧ a % (b : Int) = 0) := by
  have h0 := Int.emod_nonneg a (show (b : Int) ≠ 0 by omega)
  have h1 := Int.emod_lt_of_pos a (show (0 : Int) < b by omega)
  have e := Int.tmod_eq_emod (a := a) (b := (b : Int))
  by_cases hd : (b : Int) ∣ a
  · right
    rw [e, if_pos (.inr hd)]
    have := Int.emod_eq_zero_of_dvd hd
    omega
  · left
    rw [if_neg (by rintro (h | h); omega; exact hd h)] at e
    rw [e]
    simp
    omega

set_option maxHeartbeats 1000000 in
theorem rest_any (a : Int) (b : Nat) (hb : 0 < b) (hb2 : b ≤ 64) (W : World) :
    Calls Try.prog 23 #[.int .i64 a, .int .i64 b] W fun e w' => e = .returned (.int .i64 (a % (b : Int))) ∧ Below W.heap.size W w' := by
  have c0 : ((b : Int) == 0) = false := by simp; omega
  have c1 : ¬ ((b : Int) = 0) := by omega
  have h0 := Int.emod_nonneg a (show (b : Int) ≠ 0 by omega)
  have h1 := Int.emod_lt_of_pos a (show (0 : Int) < b by omega)
  by_cases ha : 0 ≤ a
  · have Ht := hide (Int.tmod_eq_emod_of_nonneg ha (b := (b : Int)))
    obtain ⟨r, hr⟩ : ∃ r, r = a % (b : Int) := ⟨_, rfl⟩
    rw [← hr] at h0 h1 ⊢
    have e1 : a.tmod (b : Int) = r := by rw [unhide Ht, hr]
    have e2 : a % (b : Int) = r := hr.symm
    have c2 : ¬ (r < 0) := by omega
    clear hr Ht
    go_enter Try.func23, Try.ntmps23
    go_wp2
    go_ret
    exact ⟨rfl, Below.refl _ _⟩
  · rcases tmod_neg a b hb (by omega) with ⟨t1, t2⟩ | ⟨t1, t2⟩
    · obtain ⟨r, hr⟩ : ∃ r, r = a.tmod (b : Int) := ⟨_, rfl⟩
      rw [← hr] at t1 t2
      rw [t2] at h0 ⊢
      have e1 : a.tmod (b : Int) = r := hr.symm
      clear hr t2 ha h1
      have h2 : -64 ≤ r := by omega
      go_enter Try.func23, Try.ntmps23
      go_wp2
      go_ret
      exact ⟨rfl, Below.refl _ _⟩
    · rw [t2]
      clear h0 h1 ha t2
      go_enter Try.func23, Try.ntmps23
      go_wp2
      go_ret
      exact ⟨rfl, Below.refl _ _⟩

set_option maxHeartbeats 1000000 in
theorem rmoves_err (e : Int) (W : World) (h : ¬ (1 ≤ e ∧ e ≤ 64)) : MovesErr 10 e W := by
  unfold MovesErr
  by_cases h1 : e < 1
  · clear h
    go_enter Try.func10, Try.ntmps10
    go_wp2
    exact bodyPost_ret (v := .tuple #[.slice none 0 0, .int .i64 3]) (by simp [results, Try.results10, go_sem]) rfl ⟨rfl, Below.refl _ _⟩
  · have h2 : 64 < e := by omega
    have h1' : decide (e < 1) = false := by simpa using h1
    clear h
    go_enter Try.func10, Try.ntmps10
    go_wp2
    exact bodyPost_ret (v := .tuple #[.slice none 0 0, .int .i64 3]) (by simp [results, Try.results10, go_sem]) rfl ⟨rfl, Below.refl _ _⟩

set_option maxRecDepth 100000 in
set_option maxHeartbeats 1000000 in
theorem rmoves_ok (e : Nat) (W : World) (h1 : 1 ≤ e) (h2 : e ≤ 64) : MovesOk 10 e W := by
  unfold MovesOk
  obtain ⟨i0, hi, hz0, hz1, hz2⟩ := info_parts info3
  have g1 : ¬ ((e : Int) < 1) := by omega
  have g2 : ¬ ((64 : Int) < (e : Int)) := by omega
  have g1' : decide ((e : Int) < 1) = false := by simpa using g1
  obtain ⟨L, hL⟩ : ∃ L, L = (mvL e).length := ⟨_, rfl⟩
  rw [← hL]
  have HL := hide hL
  clear hL
  go_enter Try.func10, Try.ntmps10
  go_wp2
  clear g1 g2 g1'
  go_loopw [4, 5] (fun v i wr => ∃ (k l cp : Nat) (q : Option Addr), 2 ≤ k ∧ k ≤ max 2 (e - 1) ∧ i = .int .i64 k ∧ l = (mvP e k).length ∧ v = .slice q l cp ∧ wr.ownsRow W.heap.size 3 1 (.slice q l cp) l (lsV (mvP e k)) ∧ Below W.heap.size W wr) (fun _ i _ => 64 - (intOf i).toNat)
  case atStart => exact ⟨2, 0, 0, none, by omega, by omega, rfl, by rw [mvP_two]; rfl, rfl, by rw [mvP_two]; exact World.ownsRow_nil _ _ _ _, Below.refl _ _⟩
  case round =>
    obtain ⟨k, l, cp, q, hk2, hkm, rfl, hl, rfl, hown, hb⟩ := hrel
    have Hl := hide hl
    have hl64 : l ≤ 64 := by rw [hl]; have := mvP_len e k; omega
    have HO := hide hown
    have Hb := hide hb
    clear hl hown hb
    by_cases hlt : k + 2 ≤ e
    · have qk : (k : Int) ≤ (e : Int) - 2 := by omega
      have HD := hide (fun V => alone_any k e (by omega) (by omega) h2 V)
      rw [show decide (Nat.gcd k e = 1) = decide (Nat.gcd e k = 1) from decide_eq_decide.2 (by rw [Nat.gcd_comm])] at HD
      have Hyes := hide (fun hg => mvP_yes e k hk2 hg)
      have Hno := hide (fun hg => mvP_no e k hg)
      have Hg := hide (show ∀ b : Bool, decide (Nat.gcd e k = 1) = b → (b = true → Nat.gcd e k = 1) ∧ (b = false → ¬ Nat.gcd e k = 1) from fun b hb => ⟨fun h => by rw [h] at hb; simpa using hb, fun h => by rw [h] at hb; simpa using hb⟩)
      have hkm2 : k + 1 ≤ max 2 (e - 1) := by omega
      have HG := hide (unhide Hg _ rfl)
      generalize decide (Nat.gcd e k = 1) = g at *
      clear hkm Hg
      go_wp2_with fail
      refine (unhide HD _).mono ?_
      rintro r w1 ⟨rfl, hb1⟩
      have hown := own_keep (unhide HO) hb1
      have hb := btrans (unhide Hb) hb1
      have hsz := hb.size
      clear hb1 HO Hb HD
      cases g
      · have Hs := hide (unhide Hno ((unhide HG).2 rfl))
        have HO := hide hown
        have Hb := hide hb
        clear HG Hyes Hno hown hb
        go_wp2
        go_roundw
        case rel => exact ⟨k + 1, l, cp, q, by omega, hkm2, by go_num, by rw [unhide Hs]; exact unhide Hl, rfl, by rw [unhide Hs]; exact unhide HO, unhide Hb⟩
        case measure => simp [intOf]; omega
      · have Hs := hide (unhide Hyes ((unhide HG).1 rfl))
        clear HG Hyes Hno
        go_wp2_with (at_builtin; refine wpList_append_own _ rfl _ _ 22 rfl W.heap.size 3 i0 (.int .i64 0) 1 8 Try.underlying22 hi hz0 hz1 hz2 rfl (by decide) _ _ _ rfl (hown.alloc _) ⟨w1.heap.size, 0, none⟩ 1 1 [.int .i64 (k : Int)] rfl rfl (cell_one_new _ _ _) (by simp [Value.oneCell']) (by unfold maxLen; omega) (by omega) (by simp; omega) ?_)
        intro v' w4 hown' hgrow _
        have S6 := hide ((hb.alloc hsz (.cells #[.int .i64 (k : Int)] 3)).grown hgrow (by simp; omega) (fun k hk => (hown.lt k hk).1))
        obtain ⟨q2', cap', rfl⟩ := own_form hown'
        have HO := hide hown'
        clear hown hown' hgrow hb
        go_wp2
        go_roundw
        case rel =>
          refine ⟨k + 1, l + 1, cap', q2', by omega, hkm2, by go_num, by rw [unhide Hs, unhide Hl]; simp, rfl, ?_, unhide S6⟩
          rw [unhide Hs, lsV_snoc]
          exact unhide HO
        case measure => simp [intOf]; omega
    · have qk : ¬ ((k : Int) ≤ (e : Int) - 2) := by omega
      have hke : k = max 2 (e - 1) := by omega
      have HI := hide (own_ls (unhide HO) (unhide Hl))
      have Hll := hide (show l = L by rw [unhide Hl, unhide HL, hke])
      have Hke := hide hke
      clear hke hkm
      go_wp2
      refine bodyPost_ret (v := .tuple #[.slice q l cp, .int .i64 0]) (by simp [results, Try.results10, go_sem]) rfl ⟨q, ⟨cp, by rw [unhide Hll]⟩, ?_, unhide Hb⟩
      have := unhide HI
      rw [unhide Hll, unhide Hke] at this
      exact this

set_option maxRecDepth 100000 in
set_option maxHeartbeats 2000000 in
theorem in_ok {W : World} {w h : Nat} {p : Option Addr} {n cap : Nat} {f : Nat → Bool} (r : Rt W w h p n cap f) (at' : Nat) (col : Bool) :
    Calls Try.prog 29 #[tr w h p n cap, .int .i64 at', .bool col] W fun e V => e = .returned (.int .i64 (inN f w col at' n : Nat)) ∧ Below W.heap.size W V := by
  have hw := r.1
  have hh := r.2.1
  have Hn := hide r.2.2.1
  have h4 : n ≤ 4096 := by rw [r.2.2.1]; exact Nat.mul_le_mul hw hh
  have B0 := hide (bal (o := .cells #[.int .i64 w, .int .i64 h, .slice p n cap] 25) (Below.refl W.heap.size W))
  have T0 := hide (Tb.new r)
  have Hle := hide (show ∀ x, inN f w col at' x ≤ x from fun x => cnt_le _ _)
  have Hst := hide (show ∀ x, inN f w col at' (x + 1) = inN f w col at' x + (if inF f w col at' x then 1 else 0) from fun x => rfl)
  clear r
  go_enter Try.func29, Try.ntmps29
  go_wp2
  generalize W.alloc (.cells #[.int .i64 w, .int .i64 h, .slice p n cap] 25) = w0 at *
  go_loopw [7, 8] (fun v i wr => ∃ y l : Nat, y ≤ h ∧ i = .int .i64 y ∧ l = y * w ∧ v = .int .i64 (inN f w col at' l : Nat) ∧ Below W.heap.size W wr ∧ Tb wr W.heap.size w h p n cap f) (fun _ i _ => h - (intOf i).toNat)
  case atStart => exact ⟨0, 0, Nat.zero_le _, rfl, (Nat.zero_mul _).symm, rfl, unhide B0, unhide T0⟩
  case round =>
    clear B0 T0
    obtain ⟨y, l, hy, rfl, hl, rfl, hb, hT⟩ := hrel
    have Hl := hide hl
    have Hb := hide hb
    have HT := hide hT
    have m0 := hT.1.2
    clear hl hb hT
    by_cases hlt : y < h
    · have q0 : (y : Int) < (h : Int) := by omega
      go_wp2
      clear m0
      go_loopw [7, 9] (fun v i wr => ∃ x : Nat, x ≤ w ∧ i = .int .i64 x ∧ v = .int .i64 (inN f w col at' (l + x) : Nat) ∧ Below W.heap.size W wr ∧ Tb wr W.heap.size w h p n cap f) (fun _ i _ => w - (intOf i).toNat)
      case atStart => exact ⟨0, Nat.zero_le _, rfl, rfl, unhide Hb, unhide HT⟩
      case round =>
        clear Hb HT
        obtain ⟨x, hx, rfl, rfl, hb, hT⟩ := hrel
        have m0 := hT.1.2
        by_cases hlx : x < w
        · have qx : (x : Int) < (w : Int) := by omega
          have hlt2 : l + x < n := by rw [unhide Hl, unhide Hn]; exact row_lt hlx hlt
          have HB := hide (bit_ok hT.2 y x hlt hlx)
          have hs := unhide Hst (l + x)
          have hM := unhide Hle (l + x)
          rw [show inF f w col at' (l + x) = (f (y * w + x) && (if col then x == at' else y == at')) by unfold inF; rw [unhide Hl, dm_div _ _ _ hlx, dm_mod _ _ _ hlx]] at hs
          have Hs := hide hs
          have Hb := hide hb
          have HT := hide hT
          clear hs hb hT
          generalize f (y * w + x) = bt at *
          generalize inN f w col at' (l + x) = M at *
          go_wp2_with fail
          refine (unhide HB).mono ?_
          rintro e w5 ⟨rfl, hb5⟩
          have S5 := hide (btrans (unhide Hb) hb5)
          have T5 := hide ((unhide HT).keep hb5)
          clear hb5 Hb HT HB m0
          cases bt
          · have Hv := hide (show inN f w col at' (l + x + 1) = M by rw [unhide Hs]; rfl)
            clear Hs
            go_wp2
            go_roundw
            case rel => exact ⟨x + 1, by omega, by go_num, by rw [← Nat.add_assoc, unhide Hv], unhide S5, unhide T5⟩
            case measure => simp [intOf]; omega
          · cases col
            · by_cases hc : y = at'
              · have hc' : ((y : Int) == (at' : Int)) = true := by simp [hc]
                have Hv := hide (show inN f w false at' (l + x + 1) = M + 1 by rw [unhide Hs]; simp [hc])
                clear hc Hs
                go_wp2
                go_roundw
                case rel => exact ⟨x + 1, by omega, by go_num, by rw [← Nat.add_assoc, unhide Hv]; first | rfl | simp, unhide S5, unhide T5⟩
                case measure => simp [intOf]; omega
              · have hc' : ((y : Int) == (at' : Int)) = false := by simp; omega
                have Hv := hide (show inN f w false at' (l + x + 1) = M by rw [unhide Hs]; simp [hc])
                clear hc Hs
                go_wp2
                go_roundw
                case rel => exact ⟨x + 1, by omega, by go_num, by rw [← Nat.add_assoc, unhide Hv], unhide S5, unhide T5⟩
                case measure => simp [intOf]; omega
            · by_cases hc : x = at'
              · have hc' : ((x : Int) == (at' : Int)) = true := by simp [hc]
                have Hv := hide (show inN f w true at' (l + x + 1) = M + 1 by rw [unhide Hs]; simp [hc])
                clear hc Hs
                go_wp2
                go_roundw
                case rel => exact ⟨x + 1, by omega, by go_num, by rw [← Nat.add_assoc, unhide Hv]; first | rfl | simp, unhide S5, unhide T5⟩
                case measure => simp [intOf]; omega
              · have hc' : ((x : Int) == (at' : Int)) = false := by simp; omega
                have Hv := hide (show inN f w true at' (l + x + 1) = M by rw [unhide Hs]; simp [hc])
                clear hc Hs
                go_wp2
                go_roundw
                case rel => exact ⟨x + 1, by omega, by go_num, by rw [← Nat.add_assoc, unhide Hv], unhide S5, unhide T5⟩
                case measure => simp [intOf]; omega
        · obtain rfl : x = w := by omega
          have cl : ¬ ((x : Int) < (x : Int)) := by omega
          have Hs := hide (show l + x = (y + 1) * x by rw [mul_step, unhide Hl])
          go_wp2
          go_roundw
          case rel => exact ⟨y + 1, l + x, by omega, by go_num, unhide Hs, rfl, hb, hT⟩
          case measure => simp [intOf]; omega
    · obtain rfl : y = h := by omega
      have cl : ¬ ((y : Int) < (y : Int)) := by omega
      have Hln := hide (show l = n by rw [unhide Hl, unhide Hn, Nat.mul_comm])
      go_wp2
      go_ret
      exact ⟨ret_int (by rw [unhide Hln]), unhide Hb⟩
end Go.Proofs.Ytpefcpbkdofblaa
