/-
  The reference: Twill.
-/
import Derived.Test.YtpefcpbkdofblaaTrC
namespace Go.Proofs.Ytpefcpbkdofblaa
open Go.RowKit Go.Shelf

theorem g15_0 {a0 a1 a2 a3 a4 a5 a6 a7 a8 a9 a10 a11 a12 a13 a14 : Oper} : (#[a0, a1, a2, a3, a4, a5, a6, a7, a8, a9, a10, a11, a12, a13, a14] : Array Oper)[0]? = some a0 := rfl
theorem g15_1 {a0 a1 a2 a3 a4 a5 a6 a7 a8 a9 a10 a11 a12 a13 a14 : Oper} : (#[a0, a1, a2, a3, a4, a5, a6, a7, a8, a9, a10, a11, a12, a13, a14] : Array Oper)[1]? = some a1 := rfl
theorem g15_2 {a0 a1 a2 a3 a4 a5 a6 a7 a8 a9 a10 a11 a12 a13 a14 : Oper} : (#[a0, a1, a2, a3, a4, a5, a6, a7, a8, a9, a10, a11, a12, a13, a14] : Array Oper)[2]? = some a2 := rfl
theorem g15_3 {a0 a1 a2 a3 a4 a5 a6 a7 a8 a9 a10 a11 a12 a13 a14 : Oper} : (#[a0, a1, a2, a3, a4, a5, a6, a7, a8, a9, a10, a11, a12, a13, a14] : Array Oper)[3]? = some a3 := rfl
theorem g15_4 {a0 a1 a2 a3 a4 a5 a6 a7 a8 a9 a10 a11 a12 a13 a14 : Oper} : (#[a0, a1, a2, a3, a4, a5, a6, a7, a8, a9, a10, a11, a12, a13, a14] : Array Oper)[4]? = some a4 := rfl
theorem g15_5 {a0 a1 a2 a3 a4 a5 a6 a7 a8 a9 a10 a11 a12 a13 a14 : Oper} : (#[a0, a1, a2, a3, a4, a5, a6, a7, a8, a9, a10, a11, a12, a13, a14] : Array Oper)[5]? = some a5 := rfl
theorem g15_6 {a0 a1 a2 a3 a4 a5 a6 a7 a8 a9 a10 a11 a12 a13 a14 : Oper} : (#[a0, a1, a2, a3, a4, a5, a6, a7, a8, a9, a10, a11, a12, a13, a14] : Array Oper)[6]? = some a6 := rfl
theorem g15_7 {a0 a1 a2 a3 a4 a5 a6 a7 a8 a9 a10 a11 a12 a13 a14 : Oper} : (#[a0, a1, a2, a3, a4, a5, a6, a7, a8, a9, a10, a11, a12, a13, a14] : Array Oper)[7]? = some a7 := rfl
theorem g15_8 {a0 a1 a2 a3 a4 a5 a6 a7 a8 a9 a10 a11 a12 a13 a14 : Oper} : (#[a0, a1, a2, a3, a4, a5, a6, a7, a8, a9, a10, a11, a12, a13, a14] : Array Oper)[8]? = some a8 := rfl
theorem g15_9 {a0 a1 a2 a3 a4 a5 a6 a7 a8 a9 a10 a11 a12 a13 a14 : Oper} : (#[a0, a1, a2, a3, a4, a5, a6, a7, a8, a9, a10, a11, a12, a13, a14] : Array Oper)[9]? = some a9 := rfl
theorem g15_10 {a0 a1 a2 a3 a4 a5 a6 a7 a8 a9 a10 a11 a12 a13 a14 : Oper} : (#[a0, a1, a2, a3, a4, a5, a6, a7, a8, a9, a10, a11, a12, a13, a14] : Array Oper)[10]? = some a10 := rfl
theorem g15_11 {a0 a1 a2 a3 a4 a5 a6 a7 a8 a9 a10 a11 a12 a13 a14 : Oper} : (#[a0, a1, a2, a3, a4, a5, a6, a7, a8, a9, a10, a11, a12, a13, a14] : Array Oper)[11]? = some a11 := rfl
theorem g15_12 {a0 a1 a2 a3 a4 a5 a6 a7 a8 a9 a10 a11 a12 a13 a14 : Oper} : (#[a0, a1, a2, a3, a4, a5, a6, a7, a8, a9, a10, a11, a12, a13, a14] : Array Oper)[12]? = some a12 := rfl
theorem g15_13 {a0 a1 a2 a3 a4 a5 a6 a7 a8 a9 a10 a11 a12 a13 a14 : Oper} : (#[a0, a1, a2, a3, a4, a5, a6, a7, a8, a9, a10, a11, a12, a13, a14] : Array Oper)[13]? = some a13 := rfl
theorem g15_14 {a0 a1 a2 a3 a4 a5 a6 a7 a8 a9 a10 a11 a12 a13 a14 : Oper} : (#[a0, a1, a2, a3, a4, a5, a6, a7, a8, a9, a10, a11, a12, a13, a14] : Array Oper)[14]? = some a14 := rfl

theorem bk_int (s m y x : Nat) (hs : 0 < s) : ((x : Int) - ((y * m : Nat) : Int)) % (s : Int) = ((bk s m y x : Nat) : Int) := by
  have h1 := Nat.mod_lt (y * m) hs
  have hd := Nat.div_add_mod (y * m) s
  unfold bk
  rw [Int.natCast_emod, show ((x + (s - y * m % s) : Nat) : Int) = (x : Int) - ((y * m : Nat) : Int) + (s : Int) * (1 + ((y * m / s : Nat) : Int)) by
    rw [Int.mul_add, Int.mul_one, ← Int.natCast_mul]; omega, Int.add_mul_emod_self_left]
theorem tw_nums (s m y x : Nat) (hs : 0 < s) (hs2 : s ≤ 64) (hm : m ≤ 64) (hy : y < s) (hx : x < s) : ∃ (ym u : Nat) (t : Int), u = bk s m y x ∧ u < s ∧ wrap64 ((y : Int) * (m : Int)) = (ym : Int) ∧ (x : Int) - (ym : Int) = t ∧ wrap64 t = t ∧ t % (s : Int) = (u : Int) := by
  have h1 : y * m ≤ 4096 := Nat.mul_le_mul (show y ≤ 64 by omega) hm
  refine ⟨y * m, bk s m y x, (x : Int) - ((y * m : Nat) : Int), rfl, bk_lt _ _ _ _ hs, ?_, rfl, Go.IntWalk.wrap64_in _ (by omega), bk_int s m y x hs⟩
  rw [← Int.natCast_mul]; exact Go.IntWalk.wrap64_in _ (by omega)

def TwillErr (F : Nat) (q : Option Addr) (n c : Nat) (mv : Int) (W : World) (er : Int) : Prop := Calls Try.prog F #[.slice q n c, .int .i64 mv] W fun e V => e = .returned (.tuple #[tr 0 0 none 0 0, .int .i64 er]) ∧ Below W.heap.size W V

set_option maxHeartbeats 1000000 in
theorem rtwill_many (q : Option Addr) (n c : Nat) (mv : Int) (W : World) (h : n = 0 ∨ n % 2 = 1 ∨ 16 < n) : TwillErr 7 q n c mv W 5 := by
  unfold TwillErr
  have HS := hide (bal (o := .cells #[.int .i64 0, .int .i64 0, .slice none 0 0] 25) (Below.refl W.heap.size W))
  by_cases h0 : n < 2
  · have c0 : (n : Int) < 2 := by omega
    clear h h0
    go_enter Try.func7, Try.ntmps7
    go_wp2
    exact bodyPost_ret (v := .tuple #[tr 0 0 none 0 0, .int .i64 5]) (by simp [results, Try.results7, go_sem]) rfl ⟨rfl, unhide HS⟩
  · have c0 : decide ((n : Int) < 2) = false := by simp; omega
    have c00 : ¬ (n : Int) < 2 := by omega
    by_cases h1 : n % 2 = 1
    · have c1 : (n : Int) % 2 = 1 := by omega
      clear h h0 h1
      go_enter Try.func7, Try.ntmps7
      go_wp2
      exact bodyPost_ret (v := .tuple #[tr 0 0 none 0 0, .int .i64 5]) (by simp [results, Try.results7, go_sem]) rfl ⟨rfl, unhide HS⟩
    · have c1 : (n : Int) % 2 = 0 := by omega
      have c2 : (16 : Int) < (n : Int) := by omega
      clear h h0 h1
      go_enter Try.func7, Try.ntmps7
      go_wp2
      exact bodyPost_ret (v := .tuple #[tr 0 0 none 0 0, .int .i64 5]) (by simp [results, Try.results7, go_sem]) rfl ⟨rfl, unhide HS⟩

set_option maxRecDepth 100000 in
set_option maxHeartbeats 4000000 in
theorem rtwill_bad (q : Option Addr) (n c : Nat) (r : Nat → Int) (mv : Int) (W : World) (hq : Is W q n r) (h : ¬ (n = 0 ∨ n % 2 = 1 ∨ 16 < n)) (er : Int) (he : er = if rE n r = 0 then 3 else rE n r) (hm : rE n r = 0 → ¬ (1 ≤ mv ∧ mv < suI r n)) : TwillErr 7 q n c mv W er := by
  unfold TwillErr
  have c0 : decide ((n : Int) < 2) = false := by simp; omega
  have c00 : ¬ (n : Int) < 2 := by omega
  have c1 : (n : Int) % 2 = 0 := by omega
  have c2 : ¬ ((16 : Int) < (n : Int)) := by omega
  have hn : n ≤ 16 := by omega
  have B0 := bal (o := .cells #[.int .i64 0, .int .i64 0, .slice none 0 0] 25) (Below.refl W.heap.size W)
  have HQ := hide (hq.keep B0)
  have HB := hide B0
  have HY := hide (OwnY.new W 0 0 none 0 0)
  have Hbad := hide (fun x hx hb => rE_bad (r := r) h x hx hb)
  have Hall := hide (fun ha => rE_all (r := r) h ha)
  have He := hide he
  have Hm := hide hm
  clear hq h he hm B0
  go_enter Try.func7, Try.ntmps7
  go_wp2
  clear c0 c00 c1 c2
  generalize W.alloc (.cells #[.int .i64 0, .int .i64 0, .slice none 0 0] 25) = w0 at *
  go_loopw [6, 29] (fun s i wr => ∃ x : Nat, x ≤ n ∧ i = .int .i64 x ∧ s = .int .i64 (suI r x) ∧ (∀ j, j < x → 1 ≤ r j ∧ r j ≤ 64) ∧ wr = w0) (fun _ i _ => n - (intOf i).toNat)
  case atStart => exact ⟨0, Nat.zero_le _, rfl, rfl, fun j hj => by omega, rfl⟩
  case round =>
    obtain ⟨x, hx, rfl, rfl, ha, rfl⟩ := hrel
    have hs := suI_le r x ha
    have Ha := hide ha
    clear ha
    have HS := hide (unhide HB)
    obtain ⟨⟨-, u0, u1, u2⟩, f0, f1, f2⟩ := unhide HY
    by_cases hlt : x < n
    · obtain ⟨a, o, rfl, l1, k1⟩ := (unhide HQ).at hlt
      have q1 : (x : Int) < (n : Int) := by omega
      have q2 : (0 : Int) ≤ (x : Int) := by omega
      by_cases h1 : r x < 1
      · have Hz := hide (show er = 3 by rw [unhide He, unhide Hbad x hlt (by omega)]; rfl)
        go_wp2
        exact bodyPost_ret (v := .tuple #[tr 0 0 none 0 0, .int .i64 3]) (by simp [results, Try.results7, go_sem, u0, u1, u2]) rfl ⟨by rw [unhide Hz], bset (bset (bset (unhide HS) (by dsimp only; omega)) (by dsimp only; omega)) (by dsimp only; omega)⟩
      · have h1' : decide (r x < 1) = false := by simpa using h1
        by_cases h2 : 64 < r x
        · have Hz := hide (show er = 3 by rw [unhide He, unhide Hbad x hlt (by omega)]; rfl)
          go_wp2
          exact bodyPost_ret (v := .tuple #[tr 0 0 none 0 0, .int .i64 3]) (by simp [results, Try.results7, go_sem, u0, u1, u2]) rfl ⟨by rw [unhide Hz], bset (bset (bset (unhide HS) (by dsimp only; omega)) (by dsimp only; omega)) (by dsimp only; omega)⟩
        · have Hs := hide (show suI r (x + 1) = suI r x + r x from rfl)
          have Hn := hide (show ∀ j, j < x + 1 → 1 ≤ r j ∧ r j ≤ 64 from fun j hj => by
            by_cases e : j = x
            · subst e; omega
            · exact unhide Ha j (by omega))
          have h2' : decide (64 < r x) = false := by simpa using h2
          clear u0 u1 u2 f0 f1 f2
          generalize suI r x = s at *
          generalize r x = v at *
          have e1 : wrap64 (s + v) = s + v := Go.IntWalk.wrap64_in _ (by omega)
          go_wp2
          go_roundw
          case rel => exact ⟨x + 1, by omega, by go_num, by rw [unhide Hs], unhide Hn, trivial⟩
          case measure => simp [intOf]; omega
    · obtain rfl : n = x := by omega
      have cl : ¬ ((n : Int) < (n : Int)) := by omega
      have Hz := hide (unhide Hall (unhide Ha))
      by_cases h2 : 64 < suI r n
      · have Hzz := hide (show er = 4 by rw [unhide He, unhide Hz, if_pos h2]; rfl)
        generalize suI r n = s at *
        go_wp2
        exact bodyPost_ret (v := .tuple #[tr 0 0 none 0 0, .int .i64 4]) (by simp [results, Try.results7, go_sem, u0, u1, u2]) rfl ⟨by rw [unhide Hzz], bset (bset (bset (unhide HS) (by dsimp only; omega)) (by dsimp only; omega)) (by dsimp only; omega)⟩
      · have hr0 : rE n r = 0 := by rw [unhide Hz, if_neg h2]
        have hmm := unhide Hm hr0
        have Hzz := hide (show er = 3 by rw [unhide He, if_pos hr0])
        clear hr0 Hm
        generalize suI r n = s at *
        by_cases h3 : mv < 1
        · clear hmm
          go_wp2
          exact bodyPost_ret (v := .tuple #[tr 0 0 none 0 0, .int .i64 3]) (by simp [results, Try.results7, go_sem, u0, u1, u2]) rfl ⟨by rw [unhide Hzz], bset (bset (bset (unhide HS) (by dsimp only; omega)) (by dsimp only; omega)) (by dsimp only; omega)⟩
        · have h3' : decide (mv < 1) = false := by simpa using h3
          have h4 : s - 1 < mv := by omega
          clear hmm
          go_wp2
          exact bodyPost_ret (v := .tuple #[tr 0 0 none 0 0, .int .i64 3]) (by simp [results, Try.results7, go_sem, u0, u1, u2]) rfl ⟨by rw [unhide Hzz], bset (bset (bset (unhide HS) (by dsimp only; omega)) (by dsimp only; omega)) (by dsimp only; omega)⟩

set_option maxRecDepth 100000 in
set_option maxHeartbeats 8000000 in
theorem rtwill_ok (qa : Option Addr) (n c : Nat) (k : Nat → Nat) (mv : Nat) (W : World) (hq : Is W qa n (fun i => (k i : Int))) (hr : Rr n k) (s : Nat) (hs : s = sN k n) (h1 : 1 ≤ mv) (h2 : mv < s) (ss : Nat) (hss : ss = s * s) :
    Calls Try.prog 7 #[.slice qa n c, .int .i64 mv] W fun e V => ∃ q' cp, e = .returned (.tuple #[tr s s q' ss cp, .int .i64 0]) ∧ (Rt V s s q' ss cp (wvF (upF k n) s mv) ∧ ∀ j, j < W.heap.size → Off q' ss j) ∧ Below W.heap.size W V := by
  obtain ⟨i0, hi, hz0, hz1, hz2⟩ := info_parts info4
  have hn : n ≤ 16 := hr.2.2.1
  have hs64 : s ≤ 64 := by rw [hs]; exact hr.2.2.2.2
  have c0 : decide ((n : Int) < 2) = false := by have := hr.1; simp; omega
  have c00 : ¬ (n : Int) < 2 := by have := hr.1; omega
  have c1 : (n : Int) % 2 = 0 := by have := hr.2.1; omega
  have c2 : ¬ ((16 : Int) < (n : Int)) := by omega
  have B0 := bal (o := .cells #[.int .i64 0, .int .i64 0, .slice none 0 0] 25) (Below.refl W.heap.size W)
  have HQ := hide (hq.keep B0)
  have Hqo := hide (show ∀ V bo, W.heap.size < bo → Below W.heap.size W V → Is V qa n (fun i => (k i : Int)) from fun V _ _ hV => hq.keep hV)
  have HB := hide B0
  have HY := hide (OwnY.new W 0 0 none 0 0)
  have Hss := hide hss
  have Hs := hide hs
  have Hr := hide hr
  have Hk := hide (show ∀ i, i < n → 1 ≤ k i ∧ k i ≤ 64 ∧ sN k i ≤ 64 from fun i hi => by
    have := sN_mono k (show i + 1 ≤ n by omega)
    rw [show sN k (i + 1) = sN k i + k i from rfl] at this
    have := hr.2.2.2.1 i hi
    have := hr.2.2.2.2
    omega)
  obtain ⟨GG, hGG⟩ : ∃ GG, GG = wvF (upF k n) s mv := ⟨_, rfl⟩
  have HGG := hide hGG
  rw [← hGG]
  clear hq B0 hs hss hr hGG
  go_enter Try.func7, Try.ntmps7
  go_wp2
  clear c0 c00 c1 c2
  have hz0' : W.heap.size < (W.alloc (.cells #[.int .i64 0, .int .i64 0, .slice none 0 0] 25)).heap.size := by simp
  generalize W.alloc (.cells #[.int .i64 0, .int .i64 0, .slice none 0 0] 25) = w0 at *
  go_loopw [6, 29] (fun t i wr => ∃ x : Nat, x ≤ n ∧ i = .int .i64 x ∧ t = .int .i64 (sN k x : Nat) ∧ wr = w0) (fun _ i _ => n - (intOf i).toNat)
  case atStart => exact ⟨0, Nat.zero_le _, rfl, rfl, rfl⟩
  case round =>
    obtain ⟨x, hx, rfl, rfl, rfl⟩ := hrel
    by_cases hlt : x < n
    · obtain ⟨a, o, rfl, l1, k1⟩ := (unhide HQ).at hlt
      have q1 : (x : Int) < (n : Int) := by omega
      have q2 : (0 : Int) ≤ (x : Int) := by omega
      have hb := unhide Hk x hlt
      have Hsx := hide (show sN k (x + 1) = sN k x + k x from rfl)
      generalize sN k x = t at *
      generalize k x = v at *
      have h1' : decide ((v : Int) < 1) = false := by simp; omega
      have h2' : decide ((64 : Int) < (v : Int)) = false := by simp; omega
      have h2'' : ¬ ((64 : Int) < (v : Int)) := by omega
      go_wp2
      go_roundw
      case rel => exact ⟨x + 1, by omega, by go_num, by rw [unhide Hsx]; first | rfl | simp, trivial⟩
      case measure => simp [intOf]; omega
    · obtain rfl : n = x := by omega
      have cl : ¬ ((n : Int) < (n : Int)) := by omega
      rw [← unhide Hs]
      have g2 : ¬ ((64 : Int) < (s : Int)) := by omega
      have g3 : decide ((mv : Int) < 1) = false := by simp; omega
      have g4 : decide ((s : Int) - 1 < (mv : Int)) = false := by simp; omega
      have g5 : ¬ ((s : Int) - 1 < (mv : Int)) := by omega
      have hb2 := bal (o := .cells #[.int .i64 s, .int .i64 s, .slice none 0 0] 25) (Below.refl wr.heap.size wr)
      have S4 := hide (btrans (unhide HB) hb2)
      have Z4 := hide ((unhide HY).keep hb2)
      have O4 := hide (OwnW.new wr s s)
      have hz5 : (wr.alloc (.cells #[.int .i64 s, .int .i64 s, .slice none 0 0] 25)).heap.size = wr.heap.size + 1 := by simp
      have Hz5 := hide hz5
      clear hb2 hz5
      go_wp2
      clear g2 g3 g4 g5
      have hz5 := unhide Hz5
      clear Hz5
      have hz : W.heap.size < wr.heap.size := hz0'
      generalize wr.alloc (.cells #[.int .i64 s, .int .i64 s, .slice none 0 0] 25) = wb at *
      generalize wr.heap.size = bo at *
      have hbo : bo < wb.heap.size := by omega
      clear hz5
      have HIs := hide (show ∀ V, Kept (fun j => j = bo) wb V → Is V qa n (fun i => (k i : Int)) from fun V hV => unhide Hqo V bo hz (Kept.back (unhide S4) hV (fun j e => by omega)))
      go_loopw [10] (fun c wr => ∃ (y m cp : Nat) (q : Option Addr), y ≤ s ∧ c = .int .i64 y ∧ m = y * s ∧ OwnW wr bo s s q m cp ∧ wr.ownsRow wb.heap.size 4 1 (.slice q m cp) m (bitsV GG m) ∧ Kept (fun k => k = bo) wb wr) (fun c _ => s - (intOf c).toNat)
      case atStart => exact ⟨0, 0, 0, none, Nat.zero_le _, rfl, by simp, unhide O4, World.ownsRow_nil _ _ _ _, Kept.refl _ _⟩
      case round =>
        obtain ⟨y, m, cp, q, hy, rfl, hm, DC, hown, hkt⟩ := hrel
        have Hm := hide hm
        have hm6 : m ≤ 4096 := by rw [hm]; exact Nat.mul_le_mul (show y ≤ 64 by omega) hs64
        clear hm
        by_cases hlt : y < s
        · have hmN : m + s ≤ 4160 := by omega
          have q0 : (y : Int) < (s : Int) := by omega
          go_wp2
          obtain ⟨wo, rfl⟩ : ∃ wo : World, wo = wr := ⟨_, rfl⟩
          go_loopw [11] (fun c wr => ∃ (x cp : Nat) (q : Option Addr), x ≤ s ∧ c = .int .i64 x ∧ OwnW wr bo s s q (m + x) cp ∧ wr.ownsRow wb.heap.size 4 1 (.slice q (m + x) cp) (m + x) (bitsV GG (m + x)) ∧ Kept (fun k => k = bo) wb wr) (fun c _ => s - (intOf c).toNat)
          case atStart => exact ⟨0, cp, q, Nat.zero_le _, rfl, DC, hown, hkt⟩
          case round =>
            clear DC hown hkt
            obtain ⟨x, cp, q, hx, rfl, DC, hown, hkt⟩ := hrel
            by_cases hlx : x < s
            · have qx : (x : Int) < (s : Int) := by omega
              obtain ⟨ym, u, t, hu, hus, e2, e4, e5, e6⟩ := tw_nums s mv y x (by omega) hs64 (by omega) hlt hlx
              have hv0 : GG (m + x) = upF k n u := by
                rw [unhide HGG, unhide Hm, wv_at _ _ _ _ _ hlx, ← hu]
              have Hrest := hide (show ∀ V, Kept (fun j => j = bo) wb V → Calls Try.prog 23 #[.int .i64 t, .int .i64 s] V fun e w' => e = .returned (.int .i64 (u : Int)) ∧ Below V.heap.size V w' from fun V _ => by have := rest_any t s (by omega) hs64 V; rw [e6] at this; exact this)
              have Hup := hide (show ∀ V, Kept (fun j => j = bo) wb V → Calls Try.prog 22 #[.slice qa n c, .int .i64 (u : Int)] V fun e w' => e = .returned (.bool (upF k n u)) ∧ Below V.heap.size V w' from fun V hV => up_ok c (unhide HIs V hV) (unhide Hr) u (by rw [← unhide Hs]; exact hus))
              have He2 := hide e2
              have He5 := hide e5
              generalize upF k n u = v at *
              have Hv := hide (show bitsV GG (m + x + 1) = bitsV GG (m + x) ++ [.bool v] by rw [bitsV_succ, hv0])
              clear hv0 hu e6 e2 e5 hus
              have d3 := DC.1.2.2.2
              have f3 := DC.2
              have hdlt := DC.1.1
              have hszk := hkt.2.2.2.1
              go_wp2_with fail
              refine wp_region_noPanic ?_
              refine wp_region_held_drew (S := fun V => Kept (fun k => k = bo) wb V) (by kernel_rfl) (Kept.drew hkt) ?_
              intro _
              have hSd := Kept.drew hkt
              clear hkt
              refine wpAnyH_take (i := 0) (oi := _) (v := .pointer (some ⟨bo, 2, none⟩)) g15_0 (by kernel_rfl) (by kernel_rfl) (by kernel_rfl) (fun _ _ _ h => h) (Or.inl ⟨by rfl, ?_⟩) (by assumption) ?_
              · intro V hSw
                try dsimp only at hSw
                go_simp
              simp only [Act.put, List.setIfInBounds_toArray, List.set_cons_zero, List.set_cons_succ]
              refine wpAnyH_take (i := 2) (oi := _) (v := .slice qa n c) g15_2 (by kernel_rfl) (by kernel_rfl) (by kernel_rfl) (fun _ _ _ h => h) (Or.inl ⟨by rfl, ?_⟩) (by assumption) ?_
              · intro V hSw
                try dsimp only at hSw
                go_simp
              simp only [Act.put, List.setIfInBounds_toArray, List.set_cons_zero, List.set_cons_succ]
              refine wpAnyH_take (i := 3) (oi := _) (v := .int .i64 x) g15_3 (by kernel_rfl) (by kernel_rfl) (by kernel_rfl) (fun _ _ _ h => h) (Or.inl ⟨by rfl, ?_⟩) (by assumption) ?_
              · intro V hSw
                try dsimp only at hSw
                go_simp
              simp only [Act.put, List.setIfInBounds_toArray, List.set_cons_zero, List.set_cons_succ]
              refine wpAnyH_take (i := 4) (oi := _) (v := .int .i64 y) g15_4 (by kernel_rfl) (by kernel_rfl) (by kernel_rfl) (fun _ _ _ h => h) (Or.inl ⟨by rfl, ?_⟩) (by assumption) ?_
              · intro V hSw
                try dsimp only at hSw
                go_simp
              simp only [Act.put, List.setIfInBounds_toArray, List.set_cons_zero, List.set_cons_succ]
              refine wpAnyH_take (i := 5) (oi := _) (v := .int .i64 mv) g15_5 (by kernel_rfl) (by kernel_rfl) (by kernel_rfl) (fun _ _ _ h => h) (Or.inl ⟨by rfl, ?_⟩) (by assumption) ?_
              · intro V hSw
                try dsimp only at hSw
                go_simp
              simp only [Act.put, List.setIfInBounds_toArray, List.set_cons_zero, List.set_cons_succ]
              refine wpAnyH_take (i := 6) (oi := _) (v := .int .i64 ym) g15_6 (by kernel_rfl) (by kernel_rfl) (by kernel_rfl) (fun _ _ _ h => h) (Or.inl ⟨by rfl, ?_⟩) (by assumption) ?_
              · intro V hSw
                try dsimp only at hSw
                go_simp
                rw [Go.IntWalk.i64_left]; exact unhide He2
              simp only [Act.put, List.setIfInBounds_toArray, List.set_cons_zero, List.set_cons_succ]
              refine wpAnyH_take (i := 7) (oi := _) (v := .int .i64 t) g15_7 (by kernel_rfl) (by kernel_rfl) (by kernel_rfl) (fun _ _ _ h => h) (Or.inl ⟨by rfl, ?_⟩) (by assumption) ?_
              · intro V hSw
                try dsimp only at hSw
                go_simp
                rw [Go.IntWalk.i64_left]; first | exact unhide He5 | (rw [e4]; exact unhide He5)
              simp only [Act.put, List.setIfInBounds_toArray, List.set_cons_zero, List.set_cons_succ]
              refine wpAnyH_take (i := 8) (oi := _) (v := .int .i64 s) g15_8 (by kernel_rfl) (by kernel_rfl) (by kernel_rfl) (fun _ _ _ h => h) (Or.inl ⟨by rfl, ?_⟩) (by assumption) ?_
              · intro V hSw
                try dsimp only at hSw
                go_simp
              simp only [Act.put, List.setIfInBounds_toArray, List.set_cons_zero, List.set_cons_succ]
              refine wpAnyH_ready (rs := [1, 9]) (by kernel_rfl) (by simp) ?_
              refine AllReadyH.cons (o := _) g15_1 (fun K hK => ?_) (AllReadyH.cons (o := _) g15_9 (fun K hK => ?_) AllReadyH.nil)
              · go_simp
                refine hK.out _ _ hSd (fun _ => ?_)
                clear hK K
                refine wpAnyH_ready (rs := [9]) (by kernel_rfl) (by simp) ?_
                refine AllReadyH.cons (o := _) g15_9 (fun K hK => ?_) AllReadyH.nil
                go_simp
                refine (unhide Hrest _ hSd).mono ?_
                rintro e w3 ⟨rfl, hbc⟩
                have hS3 := hSd.below hbc
                refine hK.out _ _ hS3 (fun _ => ?_)
                have DC3 := (DC.keep (Below.drew (Below.refl _ _))).keep hbc
                have own3 := own_keep hown.drew hbc
                have hz3 : wb.heap.size ≤ w3.heap.size := hS3.2.2.2.1
                clear hK K hSd DC hown d3 f3 hbc
                have hSd := hS3
                have DC := DC3
                have hown := own3
                have d3 := DC.1.2.2.2
                have f3 := DC.2
                have hdl3 := DC.1.1
                clear hS3 DC3 own3
                refine wpAnyH_ready (rs := [10]) (by kernel_rfl) (by simp) ?_
                refine AllReadyH.cons (o := _) g15_10 (fun K hK => ?_) AllReadyH.nil
                go_simp
                refine (unhide Hup _ hSd).mono ?_
                rintro e w5 ⟨rfl, hbc⟩
                have hS3 := hSd.below hbc
                refine hK.out _ _ hS3 (fun _ => ?_)
                have DC3 := DC.keep hbc
                have own3 := own_keep hown hbc
                have hz3 : wb.heap.size ≤ w5.heap.size := hS3.2.2.2.1
                clear hK K hSd DC hown d3 f3 hbc
                have hSd := hS3
                have DC := DC3
                have hown := own3
                have d3 := DC.1.2.2.2
                have f3 := DC.2
                have hdl3 := DC.1.1
                clear hS3 DC3 own3
                refine wpAnyH_ready (rs := [11]) (by kernel_rfl) (by simp) ?_
                refine AllReadyH.cons (o := _) g15_11 (fun K hK => ?_) AllReadyH.nil
                go_simp
                refine hK.out _ _ (hSd.alloc _) (fun _ => ?_)
                clear hK K
                refine wpAnyH_ready (rs := [12]) (by kernel_rfl) (by simp) ?_
                refine AllReadyH.cons (o := _) g15_12 (fun K hK => ?_) AllReadyH.nil
                have DCd := DC
                have hownd := hown
                refine wp_append_own _ _ _ 23 rfl wb.heap.size 4 i0 (.bool false) 1 1 Try.underlying23 hi hz0 hz1 hz2 rfl (by decide) (.slice q (m + x) cp) (m + x) (bitsV GG (m + x)) rfl (hownd.alloc _) ⟨w5.heap.size, 0, none⟩ 1 1 [.bool v] rfl ?c1 ?c2 ?c3 ?c4 ?c5 ?c6 ?_
                case c1 => rfl
                case c2 =>
                  intro j u hj
                  match j, hj with
                  | 0, hj => simp at hj; subst hj; simp [Addr.add]
                case c3 => intro u hu; simp at hu; subst hu; rfl
                case c4 => unfold maxLen; omega
                case c5 => omega
                case c6 => simp; omega
                intro v' w4 hown' hgrow _
                have hbk : ∀ j, (Value.slice q (m + x) cp).ownBlock = some j → wb.heap.size ≤ j := fun j e => (hownd.lt j e).1
                have S4' := (hSd.alloc (.cells #[.bool v] 4)).grown hgrow (fun r e => .inl (hbk r e))
                have D4 := (DCd.keep (bal (o := .cells #[.bool v] 4) (Below.refl _ _))).grown hgrow (fun e => by have := hbk _ e.symm; omega)
                obtain ⟨q', cap', rfl⟩ := own_form hown'
                refine hK.out _ _ S4' (fun _ => ?_)
                clear hK K hown hownd hgrow d3 f3 DC DCd hSd hbk
                have d3 := D4.1.2.2.2
                have f3 := D4.2
                refine wpAnyH_ready (rs := [13]) (by kernel_rfl) (by simp) ?_
                refine AllReadyH.cons (o := _) g15_13 (fun K hK => ?_) AllReadyH.nil
                go_simp
                refine hK.out _ _ S4' (fun _ => ?_)
                clear hK K
                refine wpAnyH_ready (rs := [14]) (by kernel_rfl) (by simp) ?_
                refine AllReadyH.cons (o := _) g15_14 (fun K hK => ?_) AllReadyH.nil
                go_simp
                have S5 := S4'.set bo 2 (.slice q' (m + x + 1) cap') rfl
                have D5 := D4.set2 q' (m + x + 1) cap'
                have own5 := ownsRow_setCell_below (a := ⟨bo, 2, none⟩) hown' (by dsimp only; omega) (.slice q' (m + x + 1) cap')
                refine hK.out _ _ S5 (fun _ => ?_)
                refine wpAnyH_done (by kernel_rfl) ?_ _
                refine NoPanic.normal ?_
                clear hK K d3 f3
                have HS5 := hide S5
                have HD5 := hide D5
                have HO5 := hide own5
                clear S5 D5 own5 S4' D4 hown'
                go_wp2
                go_roundw
                case rel =>
                  refine ⟨x + 1, cap', q', by omega, by go_num, unhide HD5, ?_, unhide HS5⟩
                  have hv := unhide Hv
                  rw [show m + (x + 1) = m + x + 1 from rfl, hv]
                  exact unhide HO5
                case measure => simp [intOf]; omega
              · go_simp
                refine (unhide Hrest _ hSd).mono ?_
                rintro e w3 ⟨rfl, hbc⟩
                have hS3 := hSd.below hbc
                refine hK.out _ _ hS3 (fun _ => ?_)
                have DC3 := (DC.keep (Below.drew (Below.refl _ _))).keep hbc
                have own3 := own_keep hown.drew hbc
                have hz3 : wb.heap.size ≤ w3.heap.size := hS3.2.2.2.1
                clear hK K hSd DC hown d3 f3 hbc
                have hSd := hS3
                have DC := DC3
                have hown := own3
                have d3 := DC.1.2.2.2
                have f3 := DC.2
                have hdl3 := DC.1.1
                clear hS3 DC3 own3
                refine wpAnyH_ready (rs := [1, 10]) (by kernel_rfl) (by simp) ?_
                refine AllReadyH.cons (o := _) g15_1 (fun K hK => ?_) (AllReadyH.cons (o := _) g15_10 (fun K hK => ?_) AllReadyH.nil)
                · go_simp
                  refine hK.out _ _ hSd (fun _ => ?_)
                  clear hK K
                  refine wpAnyH_ready (rs := [10]) (by kernel_rfl) (by simp) ?_
                  refine AllReadyH.cons (o := _) g15_10 (fun K hK => ?_) AllReadyH.nil
                  go_simp
                  refine (unhide Hup _ hSd).mono ?_
                  rintro e w5 ⟨rfl, hbc⟩
                  have hS3 := hSd.below hbc
                  refine hK.out _ _ hS3 (fun _ => ?_)
                  have DC3 := DC.keep hbc
                  have own3 := own_keep hown hbc
                  have hz3 : wb.heap.size ≤ w5.heap.size := hS3.2.2.2.1
                  clear hK K hSd DC hown d3 f3 hbc
                  have hSd := hS3
                  have DC := DC3
                  have hown := own3
                  have d3 := DC.1.2.2.2
                  have f3 := DC.2
                  have hdl3 := DC.1.1
                  clear hS3 DC3 own3
                  refine wpAnyH_ready (rs := [11]) (by kernel_rfl) (by simp) ?_
                  refine AllReadyH.cons (o := _) g15_11 (fun K hK => ?_) AllReadyH.nil
                  go_simp
                  refine hK.out _ _ (hSd.alloc _) (fun _ => ?_)
                  clear hK K
                  refine wpAnyH_ready (rs := [12]) (by kernel_rfl) (by simp) ?_
                  refine AllReadyH.cons (o := _) g15_12 (fun K hK => ?_) AllReadyH.nil
                  have DCd := DC
                  have hownd := hown
                  refine wp_append_own _ _ _ 23 rfl wb.heap.size 4 i0 (.bool false) 1 1 Try.underlying23 hi hz0 hz1 hz2 rfl (by decide) (.slice q (m + x) cp) (m + x) (bitsV GG (m + x)) rfl (hownd.alloc _) ⟨w5.heap.size, 0, none⟩ 1 1 [.bool v] rfl ?c1 ?c2 ?c3 ?c4 ?c5 ?c6 ?_
                  case c1 => rfl
                  case c2 =>
                    intro j u hj
                    match j, hj with
                    | 0, hj => simp at hj; subst hj; simp [Addr.add]
                  case c3 => intro u hu; simp at hu; subst hu; rfl
                  case c4 => unfold maxLen; omega
                  case c5 => omega
                  case c6 => simp; omega
                  intro v' w4 hown' hgrow _
                  have hbk : ∀ j, (Value.slice q (m + x) cp).ownBlock = some j → wb.heap.size ≤ j := fun j e => (hownd.lt j e).1
                  have S4' := (hSd.alloc (.cells #[.bool v] 4)).grown hgrow (fun r e => .inl (hbk r e))
                  have D4 := (DCd.keep (bal (o := .cells #[.bool v] 4) (Below.refl _ _))).grown hgrow (fun e => by have := hbk _ e.symm; omega)
                  obtain ⟨q', cap', rfl⟩ := own_form hown'
                  refine hK.out _ _ S4' (fun _ => ?_)
                  clear hK K hown hownd hgrow d3 f3 DC DCd hSd hbk
                  have d3 := D4.1.2.2.2
                  have f3 := D4.2
                  refine wpAnyH_ready (rs := [13]) (by kernel_rfl) (by simp) ?_
                  refine AllReadyH.cons (o := _) g15_13 (fun K hK => ?_) AllReadyH.nil
                  go_simp
                  refine hK.out _ _ S4' (fun _ => ?_)
                  clear hK K
                  refine wpAnyH_ready (rs := [14]) (by kernel_rfl) (by simp) ?_
                  refine AllReadyH.cons (o := _) g15_14 (fun K hK => ?_) AllReadyH.nil
                  go_simp
                  have S5 := S4'.set bo 2 (.slice q' (m + x + 1) cap') rfl
                  have D5 := D4.set2 q' (m + x + 1) cap'
                  have own5 := ownsRow_setCell_below (a := ⟨bo, 2, none⟩) hown' (by dsimp only; omega) (.slice q' (m + x + 1) cap')
                  refine hK.out _ _ S5 (fun _ => ?_)
                  refine wpAnyH_done (by kernel_rfl) ?_ _
                  refine NoPanic.normal ?_
                  clear hK K d3 f3
                  have HS5 := hide S5
                  have HD5 := hide D5
                  have HO5 := hide own5
                  clear S5 D5 own5 S4' D4 hown'
                  go_wp2
                  go_roundw
                  case rel =>
                    refine ⟨x + 1, cap', q', by omega, by go_num, unhide HD5, ?_, unhide HS5⟩
                    have hv := unhide Hv
                    rw [show m + (x + 1) = m + x + 1 from rfl, hv]
                    exact unhide HO5
                  case measure => simp [intOf]; omega
                · go_simp
                  refine (unhide Hup _ hSd).mono ?_
                  rintro e w5 ⟨rfl, hbc⟩
                  have hS3 := hSd.below hbc
                  refine hK.out _ _ hS3 (fun _ => ?_)
                  have DC3 := DC.keep hbc
                  have own3 := own_keep hown hbc
                  have hz3 : wb.heap.size ≤ w5.heap.size := hS3.2.2.2.1
                  clear hK K hSd DC hown d3 f3 hbc
                  have hSd := hS3
                  have DC := DC3
                  have hown := own3
                  have d3 := DC.1.2.2.2
                  have f3 := DC.2
                  have hdl3 := DC.1.1
                  clear hS3 DC3 own3
                  refine wpAnyH_ready (rs := [1, 11]) (by kernel_rfl) (by simp) ?_
                  refine AllReadyH.cons (o := _) g15_1 (fun K hK => ?_) (AllReadyH.cons (o := _) g15_11 (fun K hK => ?_) AllReadyH.nil)
                  · go_simp
                    refine hK.out _ _ hSd (fun _ => ?_)
                    clear hK K
                    refine wpAnyH_ready (rs := [11]) (by kernel_rfl) (by simp) ?_
                    refine AllReadyH.cons (o := _) g15_11 (fun K hK => ?_) AllReadyH.nil
                    go_simp
                    refine hK.out _ _ (hSd.alloc _) (fun _ => ?_)
                    clear hK K
                    refine wpAnyH_ready (rs := [12]) (by kernel_rfl) (by simp) ?_
                    refine AllReadyH.cons (o := _) g15_12 (fun K hK => ?_) AllReadyH.nil
                    have DCd := DC
                    have hownd := hown
                    refine wp_append_own _ _ _ 23 rfl wb.heap.size 4 i0 (.bool false) 1 1 Try.underlying23 hi hz0 hz1 hz2 rfl (by decide) (.slice q (m + x) cp) (m + x) (bitsV GG (m + x)) rfl (hownd.alloc _) ⟨w5.heap.size, 0, none⟩ 1 1 [.bool v] rfl ?c1 ?c2 ?c3 ?c4 ?c5 ?c6 ?_
                    case c1 => rfl
                    case c2 =>
                      intro j u hj
                      match j, hj with
                      | 0, hj => simp at hj; subst hj; simp [Addr.add]
                    case c3 => intro u hu; simp at hu; subst hu; rfl
                    case c4 => unfold maxLen; omega
                    case c5 => omega
                    case c6 => simp; omega
                    intro v' w4 hown' hgrow _
                    have hbk : ∀ j, (Value.slice q (m + x) cp).ownBlock = some j → wb.heap.size ≤ j := fun j e => (hownd.lt j e).1
                    have S4' := (hSd.alloc (.cells #[.bool v] 4)).grown hgrow (fun r e => .inl (hbk r e))
                    have D4 := (DCd.keep (bal (o := .cells #[.bool v] 4) (Below.refl _ _))).grown hgrow (fun e => by have := hbk _ e.symm; omega)
                    obtain ⟨q', cap', rfl⟩ := own_form hown'
                    refine hK.out _ _ S4' (fun _ => ?_)
                    clear hK K hown hownd hgrow d3 f3 DC DCd hSd hbk
                    have d3 := D4.1.2.2.2
                    have f3 := D4.2
                    refine wpAnyH_ready (rs := [13]) (by kernel_rfl) (by simp) ?_
                    refine AllReadyH.cons (o := _) g15_13 (fun K hK => ?_) AllReadyH.nil
                    go_simp
                    refine hK.out _ _ S4' (fun _ => ?_)
                    clear hK K
                    refine wpAnyH_ready (rs := [14]) (by kernel_rfl) (by simp) ?_
                    refine AllReadyH.cons (o := _) g15_14 (fun K hK => ?_) AllReadyH.nil
                    go_simp
                    have S5 := S4'.set bo 2 (.slice q' (m + x + 1) cap') rfl
                    have D5 := D4.set2 q' (m + x + 1) cap'
                    have own5 := ownsRow_setCell_below (a := ⟨bo, 2, none⟩) hown' (by dsimp only; omega) (.slice q' (m + x + 1) cap')
                    refine hK.out _ _ S5 (fun _ => ?_)
                    refine wpAnyH_done (by kernel_rfl) ?_ _
                    refine NoPanic.normal ?_
                    clear hK K d3 f3
                    have HS5 := hide S5
                    have HD5 := hide D5
                    have HO5 := hide own5
                    clear S5 D5 own5 S4' D4 hown'
                    go_wp2
                    go_roundw
                    case rel =>
                      refine ⟨x + 1, cap', q', by omega, by go_num, unhide HD5, ?_, unhide HS5⟩
                      have hv := unhide Hv
                      rw [show m + (x + 1) = m + x + 1 from rfl, hv]
                      exact unhide HO5
                    case measure => simp [intOf]; omega
                  · go_simp
                    refine hK.out _ _ (hSd.alloc _) (fun _ => ?_)
                    clear hK K
                    refine wpAnyH_ready (rs := [1]) (by kernel_rfl) (by simp) ?_
                    refine AllReadyH.cons (o := _) g15_1 (fun K hK => ?_) AllReadyH.nil
                    go_simp
                    refine hK.out _ _ (hSd.alloc _) (fun _ => ?_)
                    clear hK K
                    refine wpAnyH_ready (rs := [12]) (by kernel_rfl) (by simp) ?_
                    refine AllReadyH.cons (o := _) g15_12 (fun K hK => ?_) AllReadyH.nil
                    have DCd := DC
                    have hownd := hown
                    refine wp_append_own _ _ _ 23 rfl wb.heap.size 4 i0 (.bool false) 1 1 Try.underlying23 hi hz0 hz1 hz2 rfl (by decide) (.slice q (m + x) cp) (m + x) (bitsV GG (m + x)) rfl (hownd.alloc _) ⟨w5.heap.size, 0, none⟩ 1 1 [.bool v] rfl ?c1 ?c2 ?c3 ?c4 ?c5 ?c6 ?_
                    case c1 => rfl
                    case c2 =>
                      intro j u hj
                      match j, hj with
                      | 0, hj => simp at hj; subst hj; simp [Addr.add]
                    case c3 => intro u hu; simp at hu; subst hu; rfl
                    case c4 => unfold maxLen; omega
                    case c5 => omega
                    case c6 => simp; omega
                    intro v' w4 hown' hgrow _
                    have hbk : ∀ j, (Value.slice q (m + x) cp).ownBlock = some j → wb.heap.size ≤ j := fun j e => (hownd.lt j e).1
                    have S4' := (hSd.alloc (.cells #[.bool v] 4)).grown hgrow (fun r e => .inl (hbk r e))
                    have D4 := (DCd.keep (bal (o := .cells #[.bool v] 4) (Below.refl _ _))).grown hgrow (fun e => by have := hbk _ e.symm; omega)
                    obtain ⟨q', cap', rfl⟩ := own_form hown'
                    refine hK.out _ _ S4' (fun _ => ?_)
                    clear hK K hown hownd hgrow d3 f3 DC DCd hSd hbk
                    have d3 := D4.1.2.2.2
                    have f3 := D4.2
                    refine wpAnyH_ready (rs := [13]) (by kernel_rfl) (by simp) ?_
                    refine AllReadyH.cons (o := _) g15_13 (fun K hK => ?_) AllReadyH.nil
                    go_simp
                    refine hK.out _ _ S4' (fun _ => ?_)
                    clear hK K
                    refine wpAnyH_ready (rs := [14]) (by kernel_rfl) (by simp) ?_
                    refine AllReadyH.cons (o := _) g15_14 (fun K hK => ?_) AllReadyH.nil
                    go_simp
                    have S5 := S4'.set bo 2 (.slice q' (m + x + 1) cap') rfl
                    have D5 := D4.set2 q' (m + x + 1) cap'
                    have own5 := ownsRow_setCell_below (a := ⟨bo, 2, none⟩) hown' (by dsimp only; omega) (.slice q' (m + x + 1) cap')
                    refine hK.out _ _ S5 (fun _ => ?_)
                    refine wpAnyH_done (by kernel_rfl) ?_ _
                    refine NoPanic.normal ?_
                    clear hK K d3 f3
                    have HS5 := hide S5
                    have HD5 := hide D5
                    have HO5 := hide own5
                    clear S5 D5 own5 S4' D4 hown'
                    go_wp2
                    go_roundw
                    case rel =>
                      refine ⟨x + 1, cap', q', by omega, by go_num, unhide HD5, ?_, unhide HS5⟩
                      have hv := unhide Hv
                      rw [show m + (x + 1) = m + x + 1 from rfl, hv]
                      exact unhide HO5
                    case measure => simp [intOf]; omega
            · obtain rfl : s = x := by omega
              have cl : ¬ ((s : Int) < (s : Int)) := by omega
              have Hs := hide (show m + s = (y + 1) * s by rw [mul_step, unhide Hm])
              have HDC := hide DC
              have Hown := hide hown
              have Hkt := hide hkt
              clear DC hown hkt
              go_wp2
              go_roundw
              case rel => exact ⟨y + 1, m + s, cp, q, by omega, by go_num, unhide Hs, unhide HDC, unhide Hown, unhide Hkt⟩
              case measure => simp [intOf]; omega
        · obtain rfl : s = y := by omega
          have cl : ¬ ((s : Int) < (s : Int)) := by omega
          have hmn : m = ss := by rw [unhide Hm, unhide Hss]
          subst hmn
          have HS5 := hide (Kept.back (unhide S4) hkt (fun q e => by omega))
          have HT5 := hide (show Rt wr s s q m cp GG from ⟨hs64, hs64, unhide Hss, own_bs hown rfl⟩)
          obtain ⟨-, o0, o1, o2⟩ := DC.1
          obtain ⟨⟨-, u0, u1, u2⟩, f0, f1, f2⟩ := (unhide Z4).kept hkt (by omega)
          have Hoq := hide (show Off q m W.heap.size from own_off hown (by omega))
          have Hoj := hide (show ∀ j, j < W.heap.size → Off q m j from fun j hj => own_off hown (by omega))
          clear DC hown hkt
          go_wp2
          refine bodyPost_ret (v := .tuple #[tr s s q m cp, .int .i64 0]) (by simp [results, Try.results7, go_sem, u0, u1, u2]) rfl ⟨q, cp, rfl, ?_, bset (bset (bset (unhide HS5) (by dsimp only; omega)) (by dsimp only; omega)) (by dsimp only; omega)⟩
          refine ⟨⟨hs64, hs64, unhide Hss, ?_⟩, unhide Hoj⟩
          skip
          exact (unhide HT5).2.2.2.grown (gput W.heap.size _ _ _) (unhide Hoq)
end Go.Proofs.Ytpefcpbkdofblaa
