/-
  The document's answer, chapter 4: Kind, the walk.
-/
import Derived.Test.YtpcajcgafmmlkaaDoorTAll
namespace Go.Proofs.YtpcajcgafmmlkaaDoor
open Go.RowKit

def tuB (L : List Mv) (t : Nat) : Bool := L.any fun m => !m.2.1 && decide (m.1 = t)
def fpB (L : List Mv) (t : Nat) : Bool := L.any fun m => m.2.1 && decide (m.1 = t)
/-- one row of three, three rows -/
def lnX (F : Nat → Int → Int → Bool) (N t X Y : Nat) (b : Bool) (j i : Nat) : Bool := (List.range i).any fun x => F t ((X : Int) + N * ((x : Int) - 1)) ((Y : Int) + N * ((j : Int) - 1)) == b
def lnY (F : Nat → Int → Int → Bool) (N t X Y : Nat) (b : Bool) (j : Nat) : Bool := (List.range j).any fun y => lnX F N t X Y b y 3
def smB (F : Nat → Int → Int → Bool) (N : Nat) (L : List Mv) (t : Nat) (b : Bool) : Bool := L.any fun m => m.2.1 && (decide (m.1 = t) && lnY F N m.1 m.2.2.1 m.2.2.2 b 3)
theorem lnX_succ (F : Nat → Int → Int → Bool) (N t X Y : Nat) (b : Bool) (j i : Nat) : lnX F N t X Y b j (i + 1) = (lnX F N t X Y b j i || (F t ((X : Int) + N * ((i : Int) - 1)) ((Y : Int) + N * ((j : Int) - 1)) == b)) := by
  unfold lnX; rw [List.range_succ, List.any_append]; simp
theorem lnY_succ (F : Nat → Int → Int → Bool) (N t X Y : Nat) (b : Bool) (j : Nat) : lnY F N t X Y b (j + 1) = (lnY F N t X Y b j || lnX F N t X Y b j 3) := by
  unfold lnY; rw [List.range_succ, List.any_append]; simp
theorem Cn_next (p : Nat → Bool) (t : Nat) : Cn p (t + 1) = Cn p t + (p t).toNat := by
  unfold Cn; rw [List.range_succ, List.filter_append, List.length_append]
  cases h : p t <;> simp [h]

set_option maxHeartbeats 16000000 in
set_option maxRecDepth 100000 in
theorem rkind_plain (g w h : Int) (p : Option Addr) (n cap : Nat) (G N : Nat) (L : List Mv) (F : Nat → Int → Int → Bool) (R : List Mi) (T FL M GL : Nat) (cen som : Bool) (Rc : World → Prop) (W : World) (hg : g = (G : Int)) (hG : G ≤ 6) (hN : 1 ≤ N ∧ N ≤ 24) (hl : L.length ≤ 6912) (hL : ∀ m ∈ L, m.2.2.1 < N ∧ m.2.2.2 < N)
    (hRc : ∀ V V', Rc V → Below V.heap.size V V' → Rc V') (hc : Rc W)
    (HTo0 : ∀ V, Rc V → Calls Tryd.prog 12 #[Ch.ch g w h p n cap] V fun e w' => e = .returned (.tuple #[.int .i64 N, .int .i64 0]) ∧ Below V.heap.size V w')
    (HAl0 : ∀ V, Rc V → Calls Tryd.prog 13 #[Ch.ch g w h p n cap, .int .i64 N] V fun e w' => ∃ q cp, e = .returned (.slice (some ⟨q, 0, none⟩) L.length cp) ∧ MRow w' q L ∧ Below V.heap.size V w')
    (HLn0 : ∀ V q cp, MRow V q L → ∀ (t : Nat) (X Y : Int), t < G → -200 ≤ X ∧ X ≤ 200 → -200 ≤ Y ∧ Y ≤ 200 → LineIs g q L.length cp N t X Y V (F t X Y))
    (HMi0 : ∀ V q cp, MRow V q L → Calls Tryd.prog 16 #[Ch.ch g w h p n cap, .int .i64 N, .slice (some ⟨q, 0, none⟩) L.length cp] V fun e w' => ∃ q' cp', e = .returned (.slice q' R.length cp') ∧ MiAt w' q' R ∧ Below V.heap.size V w')
    (HCe0 : T = 3 → ∀ V q cp q' cp', MRow V q L → MiAt V q' R → Calls Tryd.prog 17 #[Ch.ch g w h p n cap, .int .i64 N, .slice (some ⟨q, 0, none⟩) L.length cp, .slice q' R.length cp', .int .i64 2] V fun e w' => e = .returned (.bool cen) ∧ Below V.heap.size V w')
    (HSo0 : T = 4 → ∀ V q cp q' cp', MRow V q L → MiAt V q' R → Calls Tryd.prog 18 #[Ch.ch g w h p n cap, .slice (some ⟨q, 0, none⟩) L.length cp, .slice q' R.length cp', .int .i64 1] V fun e w' => e = .returned (.bool som) ∧ Below V.heap.size V w')
    (eT : Cn (tuB L) G = T) (eF : Cn (fpB L) G = FL) (eM : Cn (fun t => smB F N L t true) G = M) (eG : Cn (fun t => smB F N L t false) G = GL) :
    Calls Tryd.prog 5 #[Ch.ch g w h p n cap] W fun e w' => e = .returned (.tuple #[.int .i64 (rkO T FL M GL cen som), .int .i64 0]) ∧ Below W.heap.size W w' := by
  have HTo := hide HTo0
  have HAl := hide HAl0
  have HLn := hide HLn0
  have HMi := hide HMi0
  have HCe := hide HCe0
  have HSo := hide HSo0
  have HRc := hide hRc
  have HL := hide hL
  have ET := hide eT
  have EF := hide eF
  have EM := hide eM
  have EG := hide eG
  have Hgg := hide hg
  have B0 := bal (o := .cells #[.int .i64 g, .int .i64 w, .int .i64 h, .slice p n cap] 24) (Below.refl W.heap.size W)
  have Hc := hide (hRc _ _ hc B0)
  have HB := hide B0
  have HC := hide (Ch.OwnC.new W g w h p n cap 24)
  clear HTo0 HAl0 HLn0 HMi0 HCe0 HSo0 hRc hL eT eF eM eG hc B0 hg
  generalize hans : rkO T FL M GL cen som = ans
  have Hans := hide hans
  clear hans
  go_enter Tryd.func5, Tryd.ntmps5
  go_wp2_with fail
  generalize W.alloc (.cells #[.int .i64 g, .int .i64 w, .int .i64 h, .slice p n cap] 24) = w0 at *
  refine (unhide HTo _ (unhide Hc)).mono ?_
  rintro e w1 ⟨rfl, hb⟩
  have S1 := hb
  have c := ((unhide HC).keep S1).2
  clear hb
  go_wp2_with fail
  clear c
  refine (unhide HAl _ (unhide HRc _ _ (unhide Hc) S1)).mono ?_
  rintro e w2 ⟨q, cp, rfl, hm, hb⟩
  have S2 := btrans S1 hb
  have Hm := hide hm
  have HS2 := hide S2
  have C2 := hide ((unhide HC).keep S2)
  clear hb S1 hm S2
  go_wp2
  go_loopw [7, 8, 9, 10, 11] (fun a b c d i wr => ∃ t : Nat, t ≤ G ∧ i = .int .i64 t ∧ a = .int .i64 (Cn (tuB L) t : Nat) ∧ b = .int .i64 (Cn (fpB L) t : Nat) ∧ c = .int .i64 (Cn (fun t => smB F N L t true) t : Nat) ∧ d = .int .i64 (Cn (fun t => smB F N L t false) t : Nat) ∧ Below w2.heap.size w2 wr) (fun _ _ _ _ i _ => G - (intOf i).toNat)
  case atStart => exact ⟨0, Nat.zero_le _, rfl, rfl, rfl, rfl, rfl, Below.refl _ _⟩
  case round =>
    obtain ⟨t, htG, rfl, rfl, rfl, rfl, rfl, hbel⟩ := hrel
    have nT := Cn_le (tuB L) t
    have nF := Cn_le (fpB L) t
    have nM := Cn_le (fun t => smB F N L t true) t
    have nG := Cn_le (fun t => smB F N L t false) t
    have sT := hide (Cn_next (tuB L) t)
    have sF := hide (Cn_next (fpB L) t)
    have sM := hide (Cn_next (fun t => smB F N L t true) t)
    have sG := hide (Cn_next (fun t => smB F N L t false) t)
    by_cases hlt : t < G
    · generalize hcT : Cn (tuB L) t = cT at *
      generalize hcF : Cn (fpB L) t = cF at *
      generalize hcM : Cn (fun t => smB F N L t true) t = cM at *
      generalize hcG : Cn (fun t => smB F N L t false) t = cG at *
      clear hcT hcF hcM hcG
      have q2 : (t : Int) < g := by rw [unhide Hgg]; omega
      have c := ((unhide C2).keep hbel).2
      have Hlt := hide hlt
      have Hbel := hide hbel
      clear hbel hlt
      go_wp2
      clear c
      go_loopw [12, 13, 14, 15, 40] (fun a b c d i wr => ∃ k : Nat, k ≤ L.length ∧ i = .int .i64 k ∧ a = .bool (tuB (L.take k) t) ∧ b = .bool (fpB (L.take k) t) ∧ c = .bool (smB F N (L.take k) t true) ∧ d = .bool (smB F N (L.take k) t false) ∧ Below w2.heap.size w2 wr) (fun _ _ _ _ i _ => L.length - (intOf i).toNat)
      case atStart => exact ⟨0, Nat.zero_le _, rfl, rfl, rfl, rfl, rfl, unhide Hbel⟩
      case round =>
        clear Hbel
        obtain ⟨k, hk, rfl, rfl, rfl, rfl, rfl, hbel⟩ := hrel
        by_cases hlk : k < L.length
        · have q1 : (0 : Int) ≤ (k : Int) := by omega
          have q3 : (k : Int) < (L.length : Int) := by omega
          obtain ⟨⟨a, f, X, Y⟩, hmk⟩ : ∃ m, L[k]? = some m := ⟨_, List.getElem?_eq_getElem hlk⟩
          have p1 := ((unhide Hm).keep hbel).2 k _ hmk
          have hlim := unhide HL _ (List.mem_of_getElem? hmk)
          dsimp only at hlim
          have hbN := bal (o := .cells #[.int .i64 a, .bool f, .int .i64 X, .int .i64 Y] 41) (Below.refl wr.heap.size wr)
          have SN := btrans hbel hbN
          have aT := hide (show tuB (L.take (k + 1)) t = (tuB (L.take k) t || (!f && decide (a = t))) from any_take_succ _ _ _ _ hmk)
          have aF := hide (show fpB (L.take (k + 1)) t = (fpB (L.take k) t || (f && decide (a = t))) from any_take_succ _ _ _ _ hmk)
          have aM := hide (show smB F N (L.take (k + 1)) t true = (smB F N (L.take k) t true || (f && (decide (a = t) && lnY F N a X Y true 3))) from any_take_succ _ _ _ _ hmk)
          have aG := hide (show smB F N (L.take (k + 1)) t false = (smB F N (L.take k) t false || (f && (decide (a = t) && lnY F N a X Y false 3))) from any_take_succ _ _ _ _ hmk)
          generalize tuB (L.take k) t = bT at *
          generalize fpB (L.take k) t = bF at *
          generalize smB F N (L.take k) t true = bM at *
          generalize smB F N (L.take k) t false = bG at *
          have Hlk := hide hlk
          clear hmk hlk
          by_cases ha : a = t
          · subst ha
            have haa : ((a : Int) != (a : Int)) = false := by simp
            cases f with
            | false =>
              have HSN := hide SN
              clear hbel hbN SN
              go_wp2
              go_roundw
              case rel => exact ⟨k + 1, unhide Hlk, by go_num, by rw [unhide aT]; simp, by rw [unhide aF]; simp, by rw [unhide aM]; simp, by rw [unhide aG]; simp, unhide HSN⟩
              case measure => have := unhide Hlk; simp [intOf]; omega
            | true =>
              have N1 := MBox.new wr a true X Y
              go_wp2
              clear p1 hbel hbN haa
              generalize hw1 : wr.alloc (.cells #[.int .i64 a, .bool true, .int .i64 X, .int .i64 Y] 41) = w3 at *
              clear hw1
              obtain ⟨wo, rfl⟩ : ∃ wo : World, wo = wr := ⟨_, rfl⟩
              go_loopw [14, 15, 18] (fun c d i wr => ∃ j : Nat, j ≤ 3 ∧ i = .int .i64 ((j : Int) - 1) ∧ c = .bool (bM || lnY F N a X Y true j) ∧ d = .bool (bG || lnY F N a X Y false j) ∧ Below w2.heap.size w2 wr ∧ MBox wr wo.heap.size a true X Y) (fun _ _ i _ => 3 - (intOf i + 1).toNat)
              case atStart => exact ⟨0, Nat.zero_le _, rfl, by simp [lnY], by simp [lnY], SN, N1⟩
              case round =>
                clear SN N1
                obtain ⟨j, hj, rfl, rfl, rfl, hbel, hMB⟩ := hrel
                have yM := hide (lnY_succ F N a X Y true j)
                have yG := hide (lnY_succ F N a X Y false j)
                by_cases hlj : j < 3
                · have q4 : (j : Int) - 1 ≤ 1 := by omega
                  generalize hsM : (bM || lnY F N a X Y true j) = sM0 at *
                  generalize hsG : (bG || lnY F N a X Y false j) = sG0 at *
                  have HsM := hide hsM
                  have HsG := hide hsG
                  have Hbel := hide hbel
                  have HMB := hide hMB
                  clear hbel hMB hsM hsG
                  go_wp2
                  go_loopw [14, 15, 19] (fun c d i wr => ∃ ii : Nat, ii ≤ 3 ∧ i = .int .i64 ((ii : Int) - 1) ∧ c = .bool (sM0 || lnX F N a X Y true j ii) ∧ d = .bool (sG0 || lnX F N a X Y false j ii) ∧ Below w2.heap.size w2 wr ∧ MBox wr wo.heap.size a true X Y) (fun _ _ i _ => 3 - (intOf i + 1).toNat)
                  case atStart => exact ⟨0, Nat.zero_le _, rfl, by simp [lnX], by simp [lnX], unhide Hbel, unhide HMB⟩
                  case round =>
                    clear Hbel HMB
                    obtain ⟨ii, hii, rfl, rfl, rfl, hbel, hMB⟩ := hrel
                    have xM := hide (lnX_succ F N a X Y true j ii)
                    have xG := hide (lnX_succ F N a X Y false j ii)
                    by_cases hli : ii < 3
                    · have q5 : (ii : Int) - 1 ≤ 1 := by omega
                      generalize hrM : (sM0 || lnX F N a X Y true j ii) = rM at *
                      generalize hrG : (sG0 || lnX F N a X Y false j ii) = rG at *
                      have HrM := hide hrM
                      have HrG := hide hrG
                      clear hrM hrG
                      have HSh := hide (fun V => shifted_any N a true X Y ((ii : Int) - 1) ((j : Int) - 1) V (by omega) (by omega) (by omega) (by omega) (by omega))
                      have n1 := Int.mul_le_mul_of_nonneg_left (show (ii : Int) - 1 ≤ 1 by omega) (show (0 : Int) ≤ N by omega)
                      have n2 := Int.mul_le_mul_of_nonneg_left (show -1 ≤ (ii : Int) - 1 by omega) (show (0 : Int) ≤ N by omega)
                      have n3 := Int.mul_le_mul_of_nonneg_left (show (j : Int) - 1 ≤ 1 by omega) (show (0 : Int) ≤ N by omega)
                      have n4 := Int.mul_le_mul_of_nonneg_left (show -1 ≤ (j : Int) - 1 by omega) (show (0 : Int) ≤ N by omega)
                      have hAl : -200 ≤ (X : Int) + N * ((ii : Int) - 1) ∧ (X : Int) + N * ((ii : Int) - 1) ≤ 200 := by omega
                      have hBl : -200 ≤ (Y : Int) + N * ((j : Int) - 1) ∧ (Y : Int) + N * ((j : Int) - 1) ≤ 200 := by omega
                      have HLi := hide (fun V (hV : MRow V q L) => unhide HLn V q cp hV a _ _ (unhide Hlt) hAl hBl)
                      unfold LineIs at HLi
                      clear n1 n2 n3 n4 hAl hBl
                      generalize F a ((X : Int) + N * ((ii : Int) - 1)) ((Y : Int) + N * ((j : Int) - 1)) = ob at *
                      generalize (X : Int) + N * ((ii : Int) - 1) = A at *
                      generalize (Y : Int) + N * ((j : Int) - 1) = B at *
                      have C1 := (unhide C2).keep hbel
                      have Hmi := hide ((unhide Hm).keep hbel)
                      have Mk := hide (show ∀ V, Below wr.heap.size wr V → Below wr.heap.size wr V ∧ V.cell? ⟨W.heap.size, 0, none⟩ = some (.int .i64 g) ∧ (V.cell? ⟨wo.heap.size, 0, none⟩ = some (.int .i64 a) ∧ V.cell? ⟨wo.heap.size, 1, none⟩ = some (.bool true) ∧ V.cell? ⟨wo.heap.size, 2, none⟩ = some (.int .i64 X) ∧ V.cell? ⟨wo.heap.size, 3, none⟩ = some (.int .i64 Y)) from fun V hV =>
                        ⟨hV, (C1.keep hV).2.1, (hMB.keep hV).2⟩)
                      go_wp2_with fail
                      clear C1
                      go_region_held3 (fun V => Below wr.heap.size wr V ∧ V.cell? ⟨W.heap.size, 0, none⟩ = some (.int .i64 g) ∧ (V.cell? ⟨wo.heap.size, 0, none⟩ = some (.int .i64 a) ∧ V.cell? ⟨wo.heap.size, 1, none⟩ = some (.bool true) ∧ V.cell? ⟨wo.heap.size, 2, none⟩ = some (.int .i64 X) ∧ V.cell? ⟨wo.heap.size, 3, none⟩ = some (.int .i64 Y)))
                        (first
                          | (exact unhide Mk _ (Below.drew (Below.refl _ _)))
                          | (exact unhide Mk _ (btrans (by assumption : Below wr.heap.size wr _ ∧ _).1 hb)))
                        (first
                          | (go_at_call 15; refine (unhide HSh _).mono ?_; rintro e w4 ⟨rfl, hb⟩)
                          | (go_at_call 14; refine (unhide HLi _ ((unhide Hmi).keep (by assumption : Below wr.heap.size wr _ ∧ _).1)).mono ?_; rintro e w5 ⟨rfl, hb⟩))
                      have hfin := (by assumption : Below wr.heap.size wr _ ∧ _).1
                      have HS4 := hide (btrans hbel hfin)
                      have HM4 := hide (hMB.keep hfin)
                      clear hb Mk hfin hbel hMB
                      cases ob with
                      | true =>
                        go_wp2
                        go_roundw
                        case rel => exact ⟨ii + 1, by omega, int_eq (by omega), by rw [unhide xM]; simp, by rw [unhide xG, ← unhide HrG]; simp, unhide HS4, unhide HM4⟩
                        case measure => simp [intOf]; omega
                      | false =>
                        go_wp2
                        go_roundw
                        case rel => exact ⟨ii + 1, by omega, int_eq (by omega), by rw [unhide xM, ← unhide HrM]; simp, by rw [unhide xG]; simp, unhide HS4, unhide HM4⟩
                        case measure => simp [intOf]; omega
                    · have e : ii = 3 := by omega
                      subst e
                      have cl : ¬ ((((3 : Nat) : Int)) - 1 ≤ 1) := by omega
                      have HS4 := hide hbel
                      have HM4 := hide hMB
                      clear hbel hMB
                      go_wp2
                      go_roundw
                      case rel => exact ⟨j + 1, by omega, int_eq (by omega), by rw [unhide yM, ← Bool.or_assoc, unhide HsM], by rw [unhide yG, ← Bool.or_assoc, unhide HsG], unhide HS4, unhide HM4⟩
                      case measure => simp [intOf]; omega
                · have e : j = 3 := by omega
                  subst e
                  have cl : ¬ ((((3 : Nat) : Int)) - 1 ≤ 1) := by omega
                  have HS4 := hide hbel
                  clear hbel hMB
                  go_wp2
                  go_roundw
                  case rel => exact ⟨k + 1, unhide Hlk, by go_num, by rw [unhide aT]; simp, by rw [unhide aF]; simp, by rw [unhide aM]; simp, by rw [unhide aG]; simp, unhide HS4⟩
                  case measure => have := unhide Hlk; simp [intOf]; omega
          · have haa : ((a : Int) != (t : Int)) = true := by simp; omega
            have HSN := hide SN
            clear hbel hbN SN
            go_wp2
            go_roundw
            case rel => exact ⟨k + 1, unhide Hlk, by go_num, by rw [unhide aT]; simp [ha], by rw [unhide aF]; simp [ha], by rw [unhide aM]; simp [ha], by rw [unhide aG]; simp [ha], unhide HSN⟩
            case measure => have := unhide Hlk; simp [intOf]; omega
        · have e : L.length = k := by omega
          have cl : ¬ ((k : Int) < (L.length : Int)) := by omega
          rw [← e, List.take_length]
          generalize tuB L t = bT at *
          generalize fpB L t = bF at *
          generalize smB F N L t true = bM at *
          generalize smB F N L t false = bG at *
          have HS4 := hide hbel
          clear hbel e hlk
          cases bT <;> cases bF <;> cases bM <;> cases bG
          all_goals
            go_wp2
            go_roundw
            case rel => exact ⟨t + 1, unhide Hlt, by go_num, by rw [unhide sT]; simp, by rw [unhide sF]; simp, by rw [unhide sM]; simp, by rw [unhide sG]; simp, unhide HS4⟩
            case measure => have := unhide Hlt; simp [intOf]; omega
    · have e : G = t := by omega
      subst e
      have cl : ¬ ((G : Int) < g) := by rw [unhide Hgg]; omega
      rw [unhide ET, unhide EF, unhide EM, unhide EG]
      have c := ((unhide C2).keep hbel).2
      have Hm6 := (unhide Hm).keep hbel
      have S6 := btrans (unhide HS2) hbel
      clear hbel hlt nT nF nM nG sT sF sM sG htG
      go_wp2_with fail
      clear c
      refine (unhide HMi _ q cp Hm6).mono ?_
      rintro e w6 ⟨q', cp', rfl, hMi, hb⟩
      have S7 := btrans S6 hb
      have Hm7 := Hm6.keep hb
      have C7 := (unhide HC).keep S7
      have HS7 := hide (btrans (unhide HB) S7)
      clear hb S6 Hm6 S7
      by_cases zT1 : T = 1
      · have bT1 : ((T : Int) == 1) = true := by simp [zT1]
        by_cases zFL0 : FL = 0
        · have bFL0 : ((FL : Int) == 0) = true := by simp [zFL0]
          have hy : ans = 1 := by rw [← unhide Hans]; unfold rkO; simp [zT1, zFL0]
          clear zT1 zFL0
          subst hy
          go_wp2
          exact bodyPost_ret (v := .tuple #[.int .i64 1, .int .i64 0]) (by simp [results, Tryd.results5]) rfl ⟨rfl, unhide HS7⟩
        · have bFL0 : ((FL : Int) == 0) = false := by simp; omega
          by_cases zGL0 : GL = 0
          · have bGL0 : ((GL : Int) == 0) = true := by simp [zGL0]
            have hy : ans = 3 := by rw [← unhide Hans]; unfold rkO; simp [zT1, zFL0, zGL0]
            clear zT1 zFL0 zGL0
            subst hy
            go_wp2
            exact bodyPost_ret (v := .tuple #[.int .i64 3, .int .i64 0]) (by simp [results, Tryd.results5]) rfl ⟨rfl, unhide HS7⟩
          · have bGL0 : ((GL : Int) == 0) = false := by simp; omega
            by_cases zM0 : M = 0
            · have bM0 : ((M : Int) == 0) = true := by simp [zM0]
              have hy : ans = 4 := by rw [← unhide Hans]; unfold rkO; simp [zT1, zFL0, zGL0, zM0]
              clear zT1 zFL0 zGL0 zM0
              subst hy
              go_wp2
              exact bodyPost_ret (v := .tuple #[.int .i64 4, .int .i64 0]) (by simp [results, Tryd.results5]) rfl ⟨rfl, unhide HS7⟩
            · have bM0 : ((M : Int) == 0) = false := by simp; omega
              have hy : ans = 5 := by rw [← unhide Hans]; unfold rkO; simp [zT1, zFL0, zGL0, zM0]
              clear zT1 zFL0 zGL0 zM0
              subst hy
              go_wp2
              exact bodyPost_ret (v := .tuple #[.int .i64 5, .int .i64 0]) (by simp [results, Tryd.results5]) rfl ⟨rfl, unhide HS7⟩
      · have bT1 : ((T : Int) == 1) = false := by simp; omega
        by_cases zT2 : T = 2
        · have bT2 : ((T : Int) == 2) = true := by simp [zT2]
          by_cases zFL0 : FL = 0
          · have bFL0 : ((FL : Int) == 0) = true := by simp [zFL0]
            have hy : ans = 2 := by rw [← unhide Hans]; unfold rkO; simp [zT2, zFL0]
            clear zT2 zFL0
            subst hy
            go_wp2
            exact bodyPost_ret (v := .tuple #[.int .i64 2, .int .i64 0]) (by simp [results, Tryd.results5]) rfl ⟨rfl, unhide HS7⟩
          · have bFL0 : ((FL : Int) == 0) = false := by simp; omega
            by_cases zGL0 : GL = 0
            · have bGL0 : ((GL : Int) == 0) = true := by simp [zGL0]
              have hy : ans = 6 := by rw [← unhide Hans]; unfold rkO; simp [zT2, zFL0, zGL0]
              clear zT2 zFL0 zGL0
              subst hy
              go_wp2
              exact bodyPost_ret (v := .tuple #[.int .i64 6, .int .i64 0]) (by simp [results, Tryd.results5]) rfl ⟨rfl, unhide HS7⟩
            · have bGL0 : ((GL : Int) == 0) = false := by simp; omega
              by_cases zM0 : M = 0
              · have bM0 : ((M : Int) == 0) = true := by simp [zM0]
                have hy : ans = 8 := by rw [← unhide Hans]; unfold rkO; simp [zT2, zFL0, zGL0, zM0]
                clear zT2 zFL0 zGL0 zM0
                subst hy
                go_wp2
                exact bodyPost_ret (v := .tuple #[.int .i64 8, .int .i64 0]) (by simp [results, Tryd.results5]) rfl ⟨rfl, unhide HS7⟩
              · have bM0 : ((M : Int) == 0) = false := by simp; omega
                by_cases zM2 : M = 2
                · have bM2 : ((M : Int) == 2) = true := by simp [zM2]
                  have hy : ans = 9 := by rw [← unhide Hans]; unfold rkO; simp [zT2, zFL0, zGL0, zM2]
                  clear zT2 zFL0 zGL0 zM2
                  subst hy
                  go_wp2
                  exact bodyPost_ret (v := .tuple #[.int .i64 9, .int .i64 0]) (by simp [results, Tryd.results5]) rfl ⟨rfl, unhide HS7⟩
                · have bM2 : ((M : Int) == 2) = false := by simp; omega
                  have hy : ans = 7 := by rw [← unhide Hans]; unfold rkO; simp [zT2, zFL0, zGL0, zM0, zM2]
                  clear zT2 zFL0 zGL0 zM0 zM2
                  subst hy
                  go_wp2
                  exact bodyPost_ret (v := .tuple #[.int .i64 7, .int .i64 0]) (by simp [results, Tryd.results5]) rfl ⟨rfl, unhide HS7⟩
        · have bT2 : ((T : Int) == 2) = false := by simp; omega
          by_cases zT3 : T = 3
          · have bT3 : ((T : Int) == 3) = true := by simp [zT3]
            by_cases zFL0 : FL = 0
            · have bFL0 : ((FL : Int) == 0) = true := by simp [zFL0]
              have hy : ans = 13 := by rw [← unhide Hans]; unfold rkO; simp [zT3, zFL0]
              clear zT3 zFL0
              subst hy
              go_wp2
              exact bodyPost_ret (v := .tuple #[.int .i64 13, .int .i64 0]) (by simp [results, Tryd.results5]) rfl ⟨rfl, unhide HS7⟩
            · have bFL0 : ((FL : Int) == 0) = false := by simp; omega
              have c := C7.2
              have K9 := hide (unhide HCe zT3 _ q cp q' cp' Hm7 hMi)
              have hy1 : cen = true → ans = 14 := fun hv => by rw [← unhide Hans]; unfold rkO; simp [zT3, zFL0, hv]
              have hy2 : cen = false → ans = 15 := fun hv => by rw [← unhide Hans]; unfold rkO; simp [zT3, zFL0, hv]
              have Hy1 := hide hy1
              have Hy2 := hide hy2
              clear hy1 hy2 zT3 zFL0
              go_wp2_with fail
              clear c
              refine (unhide K9).mono ?_
              rintro e w8 ⟨rfl, hb⟩
              have S9 := btrans (unhide HS7) hb
              clear hb
              cases cen with
              | true =>
                obtain rfl := unhide Hy1 rfl
                go_wp2
                exact bodyPost_ret (v := .tuple #[.int .i64 14, .int .i64 0]) (by simp [results, Tryd.results5]) rfl ⟨rfl, S9⟩
              | false =>
                obtain rfl := unhide Hy2 rfl
                go_wp2
                exact bodyPost_ret (v := .tuple #[.int .i64 15, .int .i64 0]) (by simp [results, Tryd.results5]) rfl ⟨rfl, S9⟩
          · have bT3 : ((T : Int) == 3) = false := by simp; omega
            by_cases zT4 : T = 4
            · have bT4 : ((T : Int) == 4) = true := by simp [zT4]
              by_cases zFL0 : FL = 0
              · have bFL0 : ((FL : Int) == 0) = true := by simp [zFL0]
                have hy : ans = 10 := by rw [← unhide Hans]; unfold rkO; simp [zT4, zFL0]
                clear zT4 zFL0
                subst hy
                go_wp2
                exact bodyPost_ret (v := .tuple #[.int .i64 10, .int .i64 0]) (by simp [results, Tryd.results5]) rfl ⟨rfl, unhide HS7⟩
              · have bFL0 : ((FL : Int) == 0) = false := by simp; omega
                have c := C7.2
                have K9 := hide (unhide HSo zT4 _ q cp q' cp' Hm7 hMi)
                have hy1 : som = true → ans = 11 := fun hv => by rw [← unhide Hans]; unfold rkO; simp [zT4, zFL0, hv]
                have hy2 : som = false → ans = 12 := fun hv => by rw [← unhide Hans]; unfold rkO; simp [zT4, zFL0, hv]
                have Hy1 := hide hy1
                have Hy2 := hide hy2
                clear hy1 hy2 zT4 zFL0
                go_wp2_with fail
                clear c
                refine (unhide K9).mono ?_
                rintro e w8 ⟨rfl, hb⟩
                have S9 := btrans (unhide HS7) hb
                clear hb
                cases som with
                | true =>
                  obtain rfl := unhide Hy1 rfl
                  go_wp2
                  exact bodyPost_ret (v := .tuple #[.int .i64 11, .int .i64 0]) (by simp [results, Tryd.results5]) rfl ⟨rfl, S9⟩
                | false =>
                  obtain rfl := unhide Hy2 rfl
                  go_wp2
                  exact bodyPost_ret (v := .tuple #[.int .i64 12, .int .i64 0]) (by simp [results, Tryd.results5]) rfl ⟨rfl, S9⟩
            · have bT4 : ((T : Int) == 4) = false := by simp; omega
              by_cases zFL0 : FL = 0
              · have bFL0 : ((FL : Int) == 0) = true := by simp [zFL0]
                have hy : ans = 16 := by rw [← unhide Hans]; unfold rkO; simp [zT1, zT2, zT3, zT4, zFL0]
                clear zT1 zT2 zT3 zT4 zFL0
                subst hy
                go_wp2
                exact bodyPost_ret (v := .tuple #[.int .i64 16, .int .i64 0]) (by simp [results, Tryd.results5]) rfl ⟨rfl, unhide HS7⟩
              · have bFL0 : ((FL : Int) == 0) = false := by simp; omega
                have hy : ans = 17 := by rw [← unhide Hans]; unfold rkO; simp [zT1, zT2, zT3, zT4, zFL0]
                clear zT1 zT2 zT3 zT4 zFL0
                subst hy
                go_wp2
                exact bodyPost_ret (v := .tuple #[.int .i64 17, .int .i64 0]) (by simp [results, Tryd.results5]) rfl ⟨rfl, unhide HS7⟩
end Go.Proofs.YtpcajcgafmmlkaaDoor
