/-
  Package twill: divisor, Moves, Satin; the law's alive.
-/
import Derived.Test.YtpefcpbkdofblaaTwB
namespace Go.Proofs.Ytpefcpbkdofblaa
open Go.RowKit Go.Shelf

theorem gcd_step (a b : Nat) : Nat.gcd b (a % b) = Nat.gcd a b := by
  rw [Nat.gcd_comm a b, Nat.gcd_rec b a, Nat.gcd_comm]

set_option maxHeartbeats 1000000 in
theorem div_any (a b : Nat) (ha : a ≤ 64) (hb : b ≤ 64) (W : World) :
    Calls Try.prog 24 #[.int .i64 a, .int .i64 b] W fun e w' => e = .returned (.int .i64 (Nat.gcd a b : Nat)) ∧ Below W.heap.size W w' := by
  go_enter Try.func24, Try.ntmps24
  go_wp2
  go_loopw [0, 1] (fun x y wr => ∃ c d : Nat, x = .int .i64 c ∧ y = .int .i64 d ∧ c ≤ 64 ∧ d ≤ 64 ∧ Nat.gcd c d = Nat.gcd a b ∧ Below W.heap.size W wr) (fun _ y _ => (intOf y).toNat)
  case atStart => exact ⟨a, b, rfl, rfl, ha, hb, rfl, Below.refl _ _⟩
  case round =>
    obtain ⟨c, d, rfl, rfl, hc, hd, hg, hbl⟩ := hrel
    have Hg := hide hg
    clear hg
    by_cases h0 : d = 0
    · subst h0
      have Hz := hide (show Nat.gcd a b = c by rw [← unhide Hg, Nat.gcd_zero_right])
      clear Hg
      go_wp2
      go_ret
      exact ⟨ret_int (by rw [unhide Hz]), hbl⟩
    · have c0 : ((d : Int) != 0) = true := by simp; omega
      have c1 : ((d : Int) == 0) = false := by simp; omega
      have q0 : (0 : Int) ≤ (c : Int) := by omega
      obtain ⟨u, hu⟩ : ∃ u : Nat, u = c % d := ⟨_, rfl⟩
      have hul : u < d := by rw [hu]; exact Nat.mod_lt _ (by omega)
      have e1 : (c : Int) % (d : Int) = (u : Int) := by rw [hu]; simp
      have Hn := hide (show Nat.gcd d u = Nat.gcd a b by rw [hu, gcd_step]; exact unhide Hg)
      clear hu Hg
      go_wp2_with fail
      go_region
      go_wp2
      go_roundw
      case rel => exact ⟨d, u, rfl, by rw [e1], hd, by omega, unhide Hn, btrans hbl (Joins.below_draws _ _ _)⟩
      case measure => simp [intOf]; omega

/-- whole numbers, as a row has them -/
def lsV (l : List Nat) : List Value := l.map fun k => Value.int .i64 ((k : Nat) : Int)
theorem lsV_snoc (l : List Nat) (k : Nat) : lsV (l ++ [k]) = lsV l ++ [.int .i64 ((k : Nat) : Int)] := by simp [lsV]
theorem own_ls {W : World} {B m cap : Nat} {q : Option Addr} {l : List Nat} (h : W.ownsRow B 3 1 (.slice q m cap) m (lsV l)) (hm : m = l.length) : Ns W q m (fun k => l.getD k 0) := by
  rcases h.2 with ⟨hv, h0⟩ | ⟨g, c, cur, hv, _⟩
  · exact .inl h0
  · cases hv
    refine .inr ⟨g, rfl, (h.lt g rfl).2, fun k hk => ?_⟩
    rw [h.cellAt k (by omega)]
    have hk2 : k < l.length := by omega
    simp [lsV, List.getD, List.getElem?_eq_getElem hk2]
theorem Ns.is {W : World} {q : Option Addr} {n : Nat} {f : Nat → Nat} (h : Ns W q n f) : Is W q n (fun k => ((f k : Nat) : Int)) := by
  rcases h with h | ⟨b, e, hl, hk⟩
  · exact .inl h
  · exact .inr ⟨b, 0, e, hl, fun k hkn => by rw [Nat.zero_add]; exact hk k hkn⟩

theorem mvL_len (e : Nat) (h : e ≤ 64) : (mvL e).length ≤ 64 := Nat.le_trans (mvP_len e (max 2 (e - 1))) (by omega)
/-- how many ends there may be -/
def enB (e : Int) : Bool := decide (1 ≤ e) && decide (e ≤ 64)

/-- Moves, either side: wrong ends -/
def MovesErr (F : Nat) (e : Int) (W : World) : Prop := Calls Try.prog F #[.int .i64 e] W fun r V => r = .returned (.tuple #[.slice none 0 0, .int .i64 3]) ∧ Below W.heap.size W V
set_option maxHeartbeats 1000000 in
theorem moves_err (e : Int) (W : World) (h : ¬ (1 ≤ e ∧ e ≤ 64)) : MovesErr 9 e W := by
  unfold MovesErr
  by_cases h1 : e < 1
  · clear h
    go_enter Try.func9, Try.ntmps9
    go_wp2
    exact bodyPost_ret (v := .tuple #[.slice none 0 0, .int .i64 3]) (by simp [results, Try.results9, go_sem]) rfl ⟨rfl, Below.refl _ _⟩
  · have h2 : 64 < e := by omega
    have h1' : decide (e < 1) = false := by simpa using h1
    clear h
    go_enter Try.func9, Try.ntmps9
    go_wp2
    exact bodyPost_ret (v := .tuple #[.slice none 0 0, .int .i64 3]) (by simp [results, Try.results9, go_sem]) rfl ⟨rfl, Below.refl _ _⟩

/-- Moves, either side: the moves -/
def MovesOk (F : Nat) (e : Nat) (W : World) : Prop := Calls Try.prog F #[.int .i64 e] W fun r V => ∃ q cp, r = .returned (.tuple #[.slice q (mvL e).length cp, .int .i64 0]) ∧ Ns V q (mvL e).length (fun k => (mvL e).getD k 0) ∧ Below W.heap.size W V

set_option maxRecDepth 100000 in
set_option maxHeartbeats 1000000 in
theorem moves_ok (e : Nat) (W : World) (h1 : 1 ≤ e) (h2 : e ≤ 64) : MovesOk 9 e W := by
  unfold MovesOk
  obtain ⟨i0, hi, hz0, hz1, hz2⟩ := info_parts info3
  have g1 : ¬ ((e : Int) < 1) := by omega
  have g2 : ¬ ((64 : Int) < (e : Int)) := by omega
  have g1' : decide ((e : Int) < 1) = false := by simpa using g1
  obtain ⟨L, hL⟩ : ∃ L, L = (mvL e).length := ⟨_, rfl⟩
  rw [← hL]
  have HL := hide hL
  clear hL
  go_enter Try.func9, Try.ntmps9
  go_wp2
  clear g1 g2 g1'
  go_loopw [4, 5] (fun v i wr => ∃ (k l cp : Nat) (q : Option Addr), 2 ≤ k ∧ k ≤ max 2 (e - 1) ∧ i = .int .i64 k ∧ l = (mvP e k).length ∧ v = .slice q l cp ∧ wr.ownsRow W.heap.size 3 1 (.slice q l cp) l (lsV (mvP e k)) ∧ Below W.heap.size W wr) (fun _ i _ => 64 - (intOf i).toNat)
  case atStart => exact ⟨2, 0, 0, none, by omega, by omega, rfl, by rw [mvP_two]; rfl, rfl, by rw [mvP_two]; exact World.ownsRow_nil _ _ _ _, Below.refl _ _⟩
  case round =>
    obtain ⟨k, l, cp, q, hk2, hkm, rfl, hl, rfl, hown, hb⟩ := hrel
    have Hl := hide hl
    have hl64 : l ≤ 64 := by rw [hl]; have := mvP_len e k; omega
    have HO := hide hown
    have Hb := hide hb
    clear hl hown hb
    by_cases hlt : k + 2 ≤ e
    · have qk : (k : Int) ≤ (e : Int) - 2 := by omega
      have HD := hide (fun V => div_any e k h2 (by omega) V)
      have Hyes := hide (fun hg => mvP_yes e k hk2 hg)
      have Hno := hide (fun hg => mvP_no e k hg)
      generalize Nat.gcd e k = g at *
      have hkm2 : k + 1 ≤ max 2 (e - 1) := by omega
      clear hkm
      go_wp2_with fail
      refine (unhide HD _).mono ?_
      rintro r w1 ⟨rfl, hb1⟩
      have hown := own_keep (unhide HO) hb1
      have hb := btrans (unhide Hb) hb1
      have hsz := hb.size
      clear hb1 HO Hb HD
      by_cases hg : g = 1
      · have hg' : ((g : Int) == 1) = true := by simp [hg]
        have Hs := hide (unhide Hyes hg)
        clear hg Hyes Hno
        go_wp2_with (at_builtin; refine wpList_append_own _ rfl _ _ 22 rfl W.heap.size 3 i0 (.int .i64 0) 1 8 Try.underlying22 hi hz0 hz1 hz2 rfl (by decide) _ _ _ rfl (hown.alloc _) ⟨w1.heap.size, 0, none⟩ 1 1 [.int .i64 (k : Int)] rfl rfl (cell_one_new _ _ _) (by simp [Value.oneCell']) (by unfold maxLen; omega) (by omega) (by simp; omega) ?_)
        intro v' w4 hown' hgrow _
        have S6 := hide ((hb.alloc hsz (.cells #[.int .i64 (k : Int)] 3)).grown hgrow (by simp; omega) (fun k hk => (hown.lt k hk).1))
        obtain ⟨q2', cap', rfl⟩ := own_form hown'
        have HO := hide hown'
        clear hown hown' hgrow hb
        go_wp2
        go_roundw
        case rel =>
          refine ⟨k + 1, l + 1, cap', q2', by omega, hkm2, by go_num, by rw [unhide Hs, unhide Hl]; simp, rfl, ?_, unhide S6⟩
          rw [unhide Hs, lsV_snoc]
          exact unhide HO
        case measure => simp [intOf]; omega
      · have hg' : ((g : Int) == 1) = false := by simp; omega
        have Hs := hide (unhide Hno hg)
        have HO := hide hown
        have Hb := hide hb
        clear hg Hyes Hno hown hb
        go_wp2
        go_roundw
        case rel => exact ⟨k + 1, l, cp, q, by omega, hkm2, by go_num, by rw [unhide Hs]; exact unhide Hl, rfl, by rw [unhide Hs]; exact unhide HO, unhide Hb⟩
        case measure => simp [intOf]; omega
    · have qk : ¬ ((k : Int) ≤ (e : Int) - 2) := by omega
      have hke : k = max 2 (e - 1) := by omega
      have HI := hide (own_ls (unhide HO) (unhide Hl))
      have Hll := hide (show l = L by rw [unhide Hl, unhide HL, hke])
      have Hke := hide hke
      clear hke hkm
      go_wp2
      refine bodyPost_ret (v := .tuple #[.slice q l cp, .int .i64 0]) (by simp [results, Try.results9, go_sem]) rfl ⟨q, ⟨cp, by rw [unhide Hll]⟩, ?_, unhide Hb⟩
      have := unhide HI
      rw [unhide Hll, unhide Hke] at this
      exact this

/-- somewhere it is v -/
def hasI (f : Nat → Int) (v : Int) (n : Nat) : Bool := (List.range n).any fun x => v == f x
theorem hasI_yes (f : Nat → Int) (v : Int) (n x : Nat) (h : x < n) (e : v = f x) : hasI f v n = true := List.any_eq_true.2 ⟨x, by simpa using h, by simp [e]⟩
theorem hasI_no (f : Nat → Int) (v : Int) (n : Nat) (h : ∀ x, x < n → ¬ v = f x) : hasI f v n = false := by
  cases c : hasI f v n with
  | false => rfl
  | true =>
    obtain ⟨x, hx, e⟩ := List.any_eq_true.1 c
    exact absurd (by simpa using e) (h x (by simpa using hx))
set_option maxHeartbeats 1000000 in
theorem iindex_any (p : Option Addr) (n cap : Nat) (f : Nat → Int) (v : Int) (W : World) (hn : n ≤ 64) (hf : Is W p n f) :
    Calls Try.prog 32 #[.slice p n cap, .int .i64 v] W fun e w' => (∃ i : Int, e = .returned (.int .i64 i) ∧ decide (0 ≤ i) = hasI f v n) ∧ Below W.heap.size W w' := by
  have Hf := hide hf
  clear hf
  go_enter Try.func32, Try.ntmps32
  go_wp2
  go_loopw [8] (fun i wr => ∃ x : Nat, x ≤ n ∧ i = .int .i64 x ∧ (∀ j, j < x → ¬ v = f j) ∧ Below W.heap.size W wr) (fun i _ => n - (intOf i).toNat)
  case atStart => exact ⟨0, Nat.zero_le _, rfl, fun j hj => by omega, Below.refl _ _⟩
  case round =>
    obtain ⟨x, hx, rfl, he, hb⟩ := hrel
    have He := hide he
    clear he
    by_cases hlt : x < n
    · obtain ⟨b1, o1, rfl, l1, k1⟩ := ((unhide Hf).keep hb).at hlt
      have q1 : (x : Int) < (n : Int) := by omega
      have q2 : (0 : Int) ≤ (x : Int) := by omega
      by_cases hv : v = f x
      · have hv' : (v == f x) = true := by simp [hv]
        have Hz := hide (hasI_yes f v n x hlt hv)
        clear hv
        generalize f x = a at *
        go_wp2
        go_ret
        exact ⟨⟨_, rfl, by rw [unhide Hz]; simp⟩, hb⟩
      · have hv' : (v == f x) = false := by simp [hv]
        have Hn := hide (show ∀ j, j < x + 1 → ¬ v = f j from fun j hj => by
          by_cases e : j = x
          · subst e; exact hv
          · exact unhide He j (by omega))
        clear hv
        generalize f x = a at *
        go_wp2
        go_roundw
        case rel => exact ⟨x + 1, by omega, by go_num, unhide Hn, hb⟩
        case measure => simp [intOf]; omega
    · obtain rfl : x = n := by omega
      have cl : ¬ ((x : Int) < (x : Int)) := by omega
      have Hz := hide (hasI_no f v x (unhide He))
      go_wp2
      go_ret
      exact ⟨⟨_, rfl, by rw [unhide Hz]; rfl⟩, hb⟩
set_option maxHeartbeats 1000000 in
theorem icontains_any (p : Option Addr) (n cap : Nat) (f : Nat → Int) (v : Int) (W : World) (hn : n ≤ 64) (hf : Is W p n f) :
    Calls Try.prog 25 #[.slice p n cap, .int .i64 v] W fun e w' => e = .returned (.bool (hasI f v n)) ∧ Below W.heap.size W w' := by
  have HI := hide (iindex_any p n cap f v W hn hf)
  clear hf
  go_enter Try.func25, Try.ntmps25
  go_wp2_with fail
  refine (unhide HI).mono ?_
  rintro e w1 ⟨⟨i, rfl, hi⟩, hb⟩
  have Hi := hide hi
  clear hi
  go_wp2
  go_ret
  exact ⟨ret_bool (unhide Hi), hb⟩
theorem hasI_moves (e : Nat) (m : Int) : hasI (fun k => (((mvL e).getD k 0 : Nat) : Int)) m (mvL e).length = saB e m := by
  rw [← saB_any]
  rw [Bool.eq_iff_iff, hasI, List.any_eq_true, List.any_eq_true]
  constructor
  · rintro ⟨x, hx, h⟩
    have hx' : x < (mvL e).length := by simpa using hx
    refine ⟨(mvL e)[x], List.getElem_mem hx', ?_⟩
    simpa [List.getD, List.getElem?_eq_getElem hx'] using h
  · rintro ⟨u, hu, h⟩
    obtain ⟨x, hx, hxu⟩ := List.getElem_of_mem hu
    refine ⟨x, by simpa using hx, ?_⟩
    simpa [List.getD, List.getElem?_eq_getElem hx, hxu] using h

/-- a satin's bits -/
def saF (e m j : Nat) : Bool := j % e == j / e * m % e
/-- a satin's runs -/
def kS (e i : Nat) : Nat := if i = 0 then 1 else e - 1
theorem kS_right (e : Nat) (h : 2 ≤ e) (h2 : e ≤ 64) : Rr 2 (kS e) ∧ sN (kS e) 2 = e := by
  have hs : sN (kS e) 2 = e := by simp [sN, kS]; omega
  refine ⟨⟨by omega, by omega, by omega, fun i hi => ?_, by omega⟩, hs⟩
  unfold kS
  split <;> omega
theorem sat_bits (e m j : Nat) (he : 0 < e) : wvF (upF (kS e) 2) e m j = saF e m j := by
  have hx := Nat.mod_lt j he
  have hu := Nat.mod_lt (j / e * m) he
  have up : ∀ i, upF (kS e) 2 i = decide (i = 0) := fun i => by
    simp only [upF, sN, kS]
    by_cases c : i = 0
    · subst c; simp
    · rw [if_neg (by simp; omega)]; simp [c]
  unfold wvF saF
  rw [up, bk_eq _ _ _ _ hx, Bool.eq_iff_iff]
  generalize j / e * m % e = u at *
  generalize j % e = x at *
  simp only [decide_eq_true_eq, beq_iff_eq]
  split <;> omega

def SatinErr (F : Nat) (e m : Int) (W : World) (er : Int) : Prop := Calls Try.prog F #[.int .i64 e, .int .i64 m] W fun r V => r = .returned (.tuple #[tr 0 0 none 0 0, .int .i64 er]) ∧ Below W.heap.size W V
set_option maxHeartbeats 1000000 in
theorem satin_err1 (e m : Int) (W : World) (h : ¬ (1 ≤ e ∧ e ≤ 64)) : SatinErr 12 e m W 3 := by
  unfold SatinErr
  have HM := hide (fun V => moves_err e V h)
  have Y0 := hide (OwnY.new W 0 0 none 0 0)
  have B0 := hide (bal (o := .cells #[.int .i64 0, .int .i64 0, .slice none 0 0] 25) (Below.refl W.heap.size W))
  clear h
  go_enter Try.func12, Try.ntmps12
  go_wp2_with fail
  refine (unhide HM _).mono ?_
  rintro r w1 ⟨rfl, hb⟩
  have HS := hide (btrans (unhide B0) hb)
  obtain ⟨⟨-, u0, u1, u2⟩, f0, f1, f2⟩ := (unhide Y0).keep hb
  clear hb Y0 B0 HM
  go_wp2
  exact bodyPost_ret (v := .tuple #[tr 0 0 none 0 0, .int .i64 3]) (by simp [results, Try.results12, go_sem, u0, u1, u2]) rfl ⟨rfl, bset (bset (bset (unhide HS) (by dsimp only; omega)) (by dsimp only; omega)) (by dsimp only; omega)⟩

set_option maxHeartbeats 1000000 in
theorem satin_err2 (e : Nat) (m : Int) (W : World) (h1 : 1 ≤ e) (h2 : e ≤ 64) (hs : saB e m = false) : SatinErr 12 e m W 6 := by
  unfold SatinErr
  have HM := hide (fun V => moves_ok e V h1 h2)
  have Y0 := hide (OwnY.new W 0 0 none 0 0)
  have B0 := hide (bal (o := .cells #[.int .i64 0, .int .i64 0, .slice none 0 0] 25) (Below.refl W.heap.size W))
  have HC := hide (fun (q : Option Addr) cp V (hV : Ns V q (mvL e).length (fun k => (mvL e).getD k 0)) => icontains_any q (mvL e).length cp _ m V (mvL_len e h2) hV.is)
  rw [hasI_moves, hs] at HC
  clear hs
  go_enter Try.func12, Try.ntmps12
  go_wp2_with fail
  refine (unhide HM _).mono ?_
  rintro r w1 ⟨q, cp, rfl, hN, hb⟩
  have S1 := hide (btrans (unhide B0) hb)
  have Y1 := hide ((unhide Y0).keep hb)
  have HC1 := hide (unhide HC q cp _ hN)
  generalize (mvL e).length = L at *
  clear hb Y0 B0 HM HC hN
  go_wp2_with fail
  refine (unhide HC1).mono ?_
  rintro r w2 ⟨rfl, hb⟩
  have HS := hide (btrans (unhide S1) hb)
  obtain ⟨⟨-, u0, u1, u2⟩, f0, f1, f2⟩ := (unhide Y1).keep hb
  clear hb S1 Y1 HC1
  go_wp2
  exact bodyPost_ret (v := .tuple #[tr 0 0 none 0 0, .int .i64 6]) (by simp [results, Try.results12, go_sem, u0, u1, u2]) rfl ⟨rfl, bset (bset (bset (unhide HS) (by dsimp only; omega)) (by dsimp only; omega)) (by dsimp only; omega)⟩

/-- Satin, either side: the satin -/
def SatinOk (F e m : Nat) (W : World) : Prop := Calls Try.prog F #[.int .i64 e, .int .i64 m] W fun r V => ∃ q cp, r = .returned (.tuple #[tr e e q (e * e) cp, .int .i64 0]) ∧ (Rt V e e q (e * e) cp (saF e m) ∧ ∀ j, j < W.heap.size → Off q (e * e) j) ∧ Below W.heap.size W V
set_option maxRecDepth 100000 in
set_option maxHeartbeats 1000000 in
theorem satin_ok (e m : Nat) (W : World) (h2 : e ≤ 64) (hs : saB e m = true) : SatinOk 12 e m W := by
  unfold SatinOk
  have hb3 : 2 ≤ m ∧ m + 2 ≤ e := by
    rw [saB_nat] at hs
    have := (mem_mvL e m).1 (by simpa using hs)
    omega
  have h1 : 1 ≤ e := by omega
  have HM := hide (fun V => moves_ok e V h1 h2)
  have Y0 := hide (OwnY.new W 0 0 none 0 0)
  have B0 := hide (bal (o := .cells #[.int .i64 0, .int .i64 0, .slice none 0 0] 25) (Below.refl W.heap.size W))
  have HC := hide (fun (q : Option Addr) cp V (hV : Ns V q (mvL e).length (fun k => (mvL e).getD k 0)) => icontains_any q (mvL e).length cp _ (m : Int) V (mvL_len e h2) hV.is)
  rw [hasI_moves, hs] at HC
  obtain ⟨ee, hee⟩ : ∃ ee, ee = e * e := ⟨_, rfl⟩
  rw [← hee]
  have Hbit := hide (fun j => sat_bits e m j (by omega))
  have HT := hide (fun V (b : Nat) (hI : Is V (some ⟨b, 0, none⟩) 2 (fun i => ((kS e i : Nat) : Int))) => twill_ok (some ⟨b, 0, none⟩) 2 2 (kS e) m V hI (kS_right e (by omega) h2).1 e (kS_right e (by omega) h2).2.symm (by omega) (by omega) ee hee)
  clear hs hee
  go_enter Try.func12, Try.ntmps12
  go_wp2_with fail
  refine (unhide HM _).mono ?_
  rintro r w1 ⟨q, cp, rfl, hN, hb⟩
  have S1 := hide (btrans (unhide B0) hb)
  have Y1 := hide ((unhide Y0).keep hb)
  have HC1 := hide (unhide HC q cp _ hN)
  generalize (mvL e).length = L at *
  clear hb Y0 B0 HM HC hN
  go_wp2_with fail
  refine (unhide HC1).mono ?_
  rintro r w2 ⟨rfl, hb⟩
  have S2 := hide (btrans (unhide S1) hb)
  have Y2 := hide ((unhide Y1).keep hb)
  clear hb S1 Y1 HC1
  obtain ⟨e1, he1⟩ : ∃ e1 : Nat, e1 = e - 1 := ⟨_, rfl⟩
  have e1e : (e : Int) - 1 = (e1 : Int) := by omega
  have hI := hide (show Is (w2.alloc (.cells #[.int .i64 1, .int .i64 (e1 : Int)] 3)) (some ⟨w2.heap.size, 0, none⟩) 2 (fun i => ((kS e i : Nat) : Int)) from .inr ⟨w2.heap.size, 0, rfl, by simp, fun k hk => by
    match k, hk with
    | 0, _ => simp [go_sem, kS]
    | 1, _ => simp [go_sem, kS, ← he1]⟩)
  have HT1 := hide (unhide HT _ _ (unhide hI))
  have hb3 := bal (o := .cells #[.int .i64 1, .int .i64 (e1 : Int)] 3) (Below.refl w2.heap.size w2)
  have S3 := hide (btrans (unhide S2) hb3)
  have Y3 := hide ((unhide Y2).keep hb3)
  clear hb3 S2 Y2 HT hI he1
  go_wp2_with fail
  refine (unhide HT1).mono ?_
  rintro r w4 ⟨q4, cp4, rfl, ⟨hR, hO⟩, hb⟩
  have hz := (unhide S3).size
  have hy := (unhide Y3).1.1
  have HS := hide (btrans (unhide S3) hb)
  obtain ⟨⟨-, u0, u1, u2⟩, f0, f1, f2⟩ := (unhide Y3).keep hb
  have HR := hide hR
  have HO := hide hO
  clear hb S3 Y3 HT1 hR hO
  go_wp2
  refine bodyPost_ret (v := .tuple #[tr e e q4 ee cp4, .int .i64 0]) (by simp [results, Try.results12, go_sem, u0, u1, u2]) rfl ⟨q4, cp4, rfl, ⟨⟨h2, h2, (unhide HR).2.2.1, ?_⟩, fun j hj => unhide HO j (by omega)⟩, bset (bset (bset (unhide HS) (by dsimp only; omega)) (by dsimp only; omega)) (by dsimp only; omega)⟩
  rw [show saF e m = wvF (upF (kS e) 2) e m from (funext (unhide Hbit)).symm]
  exact (unhide HR).2.2.2.grown (gput W.heap.size _ _ _) (unhide HO _ hy)

set_option maxHeartbeats 1000000 in
theorem alive_any (W : World) : Calls Try.prog 16 #[] W fun e w' => e = .returned (.bool true) ∧ Below W.heap.size W w' := by
  have HM := hide (fun V => satin_ok 5 2 V (by omega) (by decide))
  go_enter Try.func16, Try.ntmps16
  go_wp2_with fail
  refine (unhide HM _).mono ?_
  rintro e V ⟨q, cp, rfl, -, hb⟩
  have S := hide (bal (o := .cells #[.int .i64 5, .int .i64 5, .slice q 25 cp] 25) hb)
  clear hb
  go_wp2
  go_ret
  exact ⟨rfl, unhide S⟩
end Go.Proofs.Ytpefcpbkdofblaa
