/-
  GroupBurnside: the law's walk.
-/
import Derived.Test.YtpcajcgafmmlkaaBA
import Derived.Test.YtpcajcgafmmlkaaDE
import Derived.Test.YtpcajcgafmmlkaaGL
import Derived.Test.YtpcajcgafmmlkaaRefA
namespace Go.Proofs.Ytpcajcgafmmlkaa
open Go.RowKit

/-- the first k numbers together -/
def sumK (f : Mv → Nat) (L : List Mv) (k : Nat) : Nat := ((L.take k).map f).sum
theorem sumK_succ (f : Mv → Nat) (L : List Mv) (k : Nat) (m : Mv) (h : L[k]? = some m) : sumK f L (k + 1) = sumK f L k + f m := by
  unfold sumK
  rw [List.take_add_one, h]
  simp
theorem sumK_all (f : Mv → Nat) (L : List Mv) : sumK f L L.length = (L.map f).sum := by
  unfold sumK
  rw [List.take_length]
theorem sumK_le (f : Mv → Nat) (M : Nat) (L : List Mv) (k : Nat) (h : ∀ m, f m ≤ M) : sumK f L k ≤ k * M := by
  induction k with
  | zero => simp [sumK]
  | succ k ih =>
    by_cases hk : k < L.length
    · rw [sumK_succ f L k _ (List.getElem?_eq_getElem hk), Nat.add_mul]
      have := h L[k]
      omega
    · have : sumK f L (k + 1) = sumK f L k := by
        unfold sumK
        rw [List.take_of_length_le (by omega), List.take_of_length_le (by omega)]
      rw [this, Nat.add_mul]
      omega
theorem Cn_le (p : Nat → Bool) (M : Nat) : Cn p M ≤ M := by
  unfold Cn
  exact Nat.le_trans (List.length_filter_le _ _) (by simp)

def BurnIs (g w h : Int) (p : Option Addr) (n cap : Nat) (W : World) : Prop :=
  Calls Try.prog 3 #[Ch.ch g w h p n cap] W fun e w' => e = .returned (.bool true) ∧ Below W.heap.size W w'

set_option maxHeartbeats 4000000 in
set_option maxRecDepth 100000 in
theorem burn_err (g w h : Int) (p : Option Addr) (n cap : Nat) (px : Nat → Int) (W : World) (hc : Ch.Cells W p n px) (er : Int) (her : toE g w h n px = er) (hp : 1 ≤ er) : BurnIs g w h p n cap W := by
  have H1 := hide (fun V (hc : Ch.Cells V p n px) => torus_any g w h p n cap px V hc)
  have H3 := hide (fun V (hc : Ch.Cells V p n px) => moves_err g w h p n cap px V hc er her hp)
  have H6 := hide (fun V (hc : Ch.Cells V p n px) => dom_err g w h p n cap px V hc er her hp)
  rw [her] at H1
  generalize toN g w h n px = tn at *
  have B0 := bal (o := .cells #[.int .i64 g, .int .i64 w, .int .i64 h, .slice p n cap] 24) (Below.refl W.heap.size W)
  have Hc := hide (hc.keep B0)
  have HB := hide B0
  have HC0 := hide (Ch.OwnC.new W g w h p n cap 24)
  have hee : (er != 0) = true := by simp; omega
  clear hc B0 hp her
  unfold BurnIs
  go_enter Try.func3, Try.ntmps3
  go_wp2_with fail
  generalize W.alloc (.cells #[.int .i64 g, .int .i64 w, .int .i64 h, .slice p n cap] 24) = w0 at *
  refine (alive_any _).mono ?_
  rintro e w1 ⟨rfl, hb⟩
  have S1 := hb
  have c := ((unhide HC0).keep S1).2
  go_wp2_with fail
  clear c
  refine (unhide H3 _ ((unhide Hc).keep S1)).mono ?_
  rintro e w2 ⟨rfl, hb⟩
  have S2 := btrans S1 hb
  have c := ((unhide HC0).keep S2).2
  clear hb S1
  go_wp2_with fail
  clear c
  refine (unhide H1 _ ((unhide Hc).keep S2)).mono ?_
  rintro e w3 ⟨rfl, hb⟩
  have S3 := btrans S2 hb
  have c := ((unhide HC0).keep S3).2
  clear hb S2
  go_wp2_with fail
  clear c
  refine (unhide H6 _ ((unhide Hc).keep S3)).mono ?_
  rintro e w4 ⟨rfl, hb⟩
  have S4 := btrans S3 hb
  clear hb S3
  go_wp2
  go_ret
  exact ⟨ret_bool (by simp), btrans (unhide HB) S4⟩

set_option maxHeartbeats 8000000 in
set_option maxRecDepth 100000 in
theorem burn_plain (g w h : Int) (p : Option Addr) (n cap : Nat) (N : Nat) (L : List Mv) (D : List (Int × Int)) (IX IY : Mv → Int → Int → Int) (fx : Mv → Nat → Bool) (Rc : World → Prop) (W : World)
    (hN : 1 ≤ N ∧ N ≤ 24) (hL : L.length ≤ 6912) (hD : D.length ≤ 576) (hRc : ∀ V V', Rc V → Below V.heap.size V V' → Rc V')
    (hfx : ∀ m ∈ L, ∀ x y : Nat, x < N → y < N → fx m (y * N + x) = (decide (IX m x y = x) && decide (IY m x y = y)))
    (hone : ∀ m ∈ L, ∀ i j : Nat, i ≠ j → ∀ a b, D[i]? = some a → D[j]? = some b → ¬ (IX m a.1 a.2 = b.1 ∧ IY m a.1 a.2 = b.2))
    (hcount : D.length * L.length = (L.map fun m => Cn (fx m) (N * N)).sum)
    (H1 : ∀ V, Rc V → Calls Try.prog 9 #[Ch.ch g w h p n cap] V fun e w' => e = .returned (.tuple #[.int .i64 N, .int .i64 0]) ∧ Below V.heap.size V w')
    (H3 : ∀ V, Rc V → Calls Try.prog 8 #[Ch.ch g w h p n cap] V fun e w' => ∃ q cp, e = .returned (.tuple #[.slice (some ⟨q, 0, none⟩) L.length cp, .int .i64 0]) ∧ MRow w' q L ∧ Below V.heap.size V w')
    (H6 : ∀ V, Rc V → Calls Try.prog 10 #[Ch.ch g w h p n cap] V fun e w' => ∃ q cp, e = .returned (.tuple #[.slice (some ⟨q, 0, none⟩) D.length cp, .int .i64 0]) ∧ ZRow w' q D ∧ Below V.heap.size V w')
    (HT : ∀ m ∈ L, ∀ x y : Int, 0 ≤ x ∧ x < N → 0 ≤ y ∧ y < N → ∃ X Y : Int, ToIs g m.1 m.2.1 m.2.2.1 m.2.2.2 x y X Y ∧ X % N = IX m x y ∧ Y % N = IY m x y)
    (hDr : ∀ z ∈ D, (0 ≤ z.1 ∧ z.1 < (N : Int)) ∧ 0 ≤ z.2 ∧ z.2 < (N : Int))
    (hc : Rc W) : BurnIs g w h p n cap W := by
  have K1 := hide H1
  have K3 := hide H3
  have K6 := hide H6
  have KT := hide HT
  have HRc := hide hRc
  have Hct := hide hcount
  have Hone := hide hone
  have Hfx := hide hfx
  have B0 := bal (o := .cells #[.int .i64 g, .int .i64 w, .int .i64 h, .slice p n cap] 24) (Below.refl W.heap.size W)
  have Hc := hide (hRc _ _ hc B0)
  have HB := hide B0
  have HC0 := hide (Ch.OwnC.new W g w h p n cap 24)
  clear hc B0 H1 H3 H6 HT hRc hcount hone hfx
  unfold BurnIs
  go_enter Try.func3, Try.ntmps3
  go_wp2_with fail
  generalize W.alloc (.cells #[.int .i64 g, .int .i64 w, .int .i64 h, .slice p n cap] 24) = w0 at *
  refine (alive_any _).mono ?_
  rintro e w1 ⟨rfl, hb⟩
  have S1 := hb
  have c := ((unhide HC0).keep S1).2
  go_wp2_with fail
  clear c
  refine (unhide K3 _ (unhide HRc _ _ (unhide Hc) S1)).mono ?_
  rintro e w2 ⟨q, cp, rfl, hm, hb⟩
  have S2 := btrans S1 hb
  have Hm2 := hide hm
  have c := ((unhide HC0).keep S2).2
  clear hb S1 hm K3
  go_wp2_with fail
  clear c
  refine (unhide K1 _ (unhide HRc _ _ (unhide Hc) S2)).mono ?_
  rintro e w3 ⟨rfl, hb⟩
  have S3 := btrans S2 hb
  have Hm3 := hide ((unhide Hm2).keep hb)
  have c := ((unhide HC0).keep S3).2
  clear hb S2 Hm2 K1
  go_wp2_with fail
  clear c
  refine (unhide K6 _ (unhide HRc _ _ (unhide Hc) S3)).mono ?_
  rintro e wB ⟨qd, cpd, rfl, hz, hb⟩
  have HS := hide (btrans S3 hb)
  have Hm := hide ((unhide Hm3).keep hb)
  have Hz := hide hz
  clear hb S3 Hm3 hz K6 Hc HRc
  have HOn := hide (fun (X Y : Int) (V : World) => on_any N X Y V (by omega))
  have HDr := hide hDr
  clear hDr
  have hNN : N * N ≤ 576 := Nat.mul_le_mul hN.2 hN.2
  have HSs := hide (fun k m (hk : L[k]? = some m) => sumK_succ (fun m => Cn (fx m) (N * N)) L k m hk)
  have HSb := hide (fun k => sumK_le (fun m => Cn (fx m) (N * N)) 576 L k (fun m => Nat.le_trans (Cn_le (fx m) (N * N)) hNN))
  rw [← sumK_all] at Hct
  go_wp2
  go_loopw [9, 56] (fun c i wr => ∃ k : Nat, k ≤ L.length ∧ i = .int .i64 k ∧ c = .int .i64 (sumK (fun m => Cn (fx m) (N * N)) L k) ∧ Below wB.heap.size wB wr) (fun _ i _ => L.length - (intOf i).toNat)
  case atStart => exact ⟨0, Nat.zero_le _, rfl, by simp [sumK], Below.refl _ _⟩
  case round =>
    obtain ⟨k, hk, rfl, rfl, hbel⟩ := hrel
    have hsb := unhide HSb k
    by_cases hlt : k < L.length
    · have q1 : (0 : Int) ≤ (k : Int) := by omega
      have q2 : (k : Int) < (L.length : Int) := by omega
      obtain ⟨⟨a, b, U, V1⟩, hmk⟩ : ∃ m, L[k]? = some m := ⟨_, List.getElem?_eq_getElem hlt⟩
      have Hnx := hide (unhide HSs k _ hmk)
      have p1 := ((unhide Hm).keep hbel).2 k _ hmk
      have hmem := List.mem_of_getElem? hmk
      have HT1 := hide (fun x y => unhide KT _ hmem x y)
      have Hf1 := hide (fun x y => unhide Hfx _ hmem x y)
      have Ho1 := hide (fun i j => unhide Hone _ hmem i j)
      have Hl := hide hlt
      generalize sumK (fun m => Cn (fx m) (N * N)) L k = s0 at *
      have hs0 : s0 ≤ 3981312 := Nat.le_trans hsb (Nat.mul_le_mul_right 576 (Nat.le_trans hk hL))
      have hbN := bal (o := .cells #[.int .i64 a, .bool b, .int .i64 U, .int .i64 V1] 38) (Below.refl wr.heap.size wr)
      have HSN := hide (btrans hbel hbN)
      have HM0 := hide (OwnM.new wr a b U V1 38)
      clear hmk hmem hbel hbN hlt hsb hk
      go_wp2_with fail
      clear p1
      generalize wr.alloc (.cells #[.int .i64 a, .bool b, .int .i64 U, .int .i64 V1] 38) = wN at *
      generalize wr.heap.size = fb at *
      generalize IX (a, b, U, V1) = ix at *
      generalize IY (a, b, U, V1) = iy at *
      generalize fx (a, b, U, V1) = ff at *
      clear HSs HSb KT Hfx Hone
      go_wp2
      go_loopw [9, 12] (fun c i wr => ∃ y : Nat, y ≤ N ∧ i = .int .i64 y ∧ c = .int .i64 ((s0 + Cn ff (y * N) : Nat) : Int) ∧ Below wN.heap.size wN wr) (fun _ i _ => N - (intOf i).toNat)
      case atStart => exact ⟨0, Nat.zero_le _, rfl, by simp [Cn], Below.refl _ _⟩
      case round =>
        obtain ⟨y, hy, rfl, rfl, hbel⟩ := hrel
        by_cases hly : y < N
        · have hly' : (y : Int) < (N : Int) := by omega
          have hyN : y * N + N ≤ 576 := by have := Nat.mul_le_mul_right N (show y + 1 ≤ N by omega); rw [Nat.add_mul, Nat.one_mul] at this; omega
          go_wp2
          have Hbel := hide hbel
          clear hbel
          go_loopw [9, 13] (fun c i wr => ∃ x : Nat, x ≤ N ∧ i = .int .i64 x ∧ c = .int .i64 ((s0 + Cn ff (y * N + x) : Nat) : Int) ∧ Below wN.heap.size wN wr) (fun _ i _ => N - (intOf i).toNat)
          case atStart => exact ⟨0, Nat.zero_le _, rfl, rfl, unhide Hbel⟩
          case round =>
            clear Hbel
            obtain ⟨x, hx, rfl, rfl, hbel⟩ := hrel
            by_cases hlx : x < N
            · have hlx' : (x : Int) < (N : Int) := by omega
              obtain ⟨X, Y, hTo, hX, hY⟩ := unhide HT1 x y (by omega) (by omega)
              have HTo := hide hTo
              have HO1 := hide (fun V => unhide HOn X Y V)
              have hff := unhide Hf1 x y hlx hly
              rw [hX, hY] at HO1
              generalize ix x y = XX at *
              generalize iy x y = YY at *
              have Hcn := hide (Cn_succ ff (y * N + x))
              have hcl := Cn_le ff (y * N + x)
              rw [hff] at Hcn
              generalize hcc : Cn ff (y * N + x) = cn at *
              have hcn : cn ≤ 576 := by omega
              clear hTo hX hY hff hcl hcc
              have Hl := hide hlx
              have m := ((unhide HM0).keep hbel).2.1
              have c := ((unhide HC0).keep (btrans (unhide HS) (btrans (unhide HSN) hbel))).2
              go_wp2_with fail
              clear m c
              refine (unhide HTo _).mono ?_
              rintro e w4 ⟨rfl, hb⟩
              have S4 := btrans hbel hb
              clear hb hbel
              go_wp2_with fail
              refine (unhide HO1 _).mono ?_
              rintro e w5 ⟨rfl, hb⟩
              have HS5 := hide (btrans S4 hb)
              clear hb S4 HTo HO1
              by_cases hX : XX = (x : Int)
              · subst hX
                by_cases hY : YY = (y : Int)
                · subst hY
                  have Hc2 := hide (show Cn ff (y * N + (x + 1)) = cn + 1 by rw [← Nat.add_assoc, unhide Hcn]; simp)
                  clear Hcn
                  go_wp2
                  go_roundw
                  case rel => exact ⟨x + 1, unhide Hl, by go_num, by rw [unhide Hc2]; go_num, unhide HS5⟩
                  case measure => have := unhide Hl; simp [intOf]; omega
                · have Hc2 := hide (show Cn ff (y * N + (x + 1)) = cn by rw [← Nat.add_assoc, unhide Hcn]; simp [hY])
                  have hYb : (YY == (y : Int)) = false := by simp [hY]
                  clear Hcn hY
                  go_wp2
                  go_roundw
                  case rel => exact ⟨x + 1, unhide Hl, by go_num, by rw [unhide Hc2]; go_num, unhide HS5⟩
                  case measure => have := unhide Hl; simp [intOf]; omega
              · have Hc2 := hide (show Cn ff (y * N + (x + 1)) = cn by rw [← Nat.add_assoc, unhide Hcn]; simp [hX])
                have hXb : (XX == (x : Int)) = false := by simp [hX]
                clear Hcn hX
                go_wp2
                go_roundw
                case rel => exact ⟨x + 1, unhide Hl, by go_num, by rw [unhide Hc2]; go_num, unhide HS5⟩
                case measure => have := unhide Hl; simp [intOf]; omega
            · have e : x = N := by omega
              subst e
              have cl : ¬ ((x : Int) < (x : Int)) := by omega
              have HbelX := hide hbel
              clear hbel
              go_wp2
              go_roundw
              case rel => exact ⟨y + 1, by omega, by go_num, by rw [Nat.add_mul, Nat.one_mul], unhide HbelX⟩
              case measure => simp [intOf]; omega
        · have e : N = y := by omega
          subst e
          have cl : ¬ ((N : Int) < (N : Int)) := by omega
          have HSy := hide hbel
          clear hbel hly hy
          go_wp2
          go_loopw [87] (fun i wr => ∃ k : Nat, k ≤ D.length ∧ i = .int .i64 k ∧ Below wN.heap.size wN wr) (fun i _ => D.length - (intOf i).toNat)
          case atStart => exact ⟨0, Nat.zero_le _, rfl, unhide HSy⟩
          case round =>
            clear HSy
            obtain ⟨i, hi, rfl, hbel⟩ := hrel
            by_cases hli : i < D.length
            · have r1 : (0 : Int) ≤ (i : Int) := by omega
              have r2 : (i : Int) < (D.length : Int) := by omega
              obtain ⟨⟨zx, zy⟩, hzi⟩ : ∃ z, D[i]? = some z := ⟨_, List.getElem?_eq_getElem hli⟩
              have p2 := ((unhide Hz).keep (btrans (unhide HSN) hbel)).2 i _ hzi
              have hr := unhide HDr _ (List.mem_of_getElem? hzi)
              obtain ⟨X, Y, hTo, hX, hY⟩ := unhide HT1 zx zy hr.1 hr.2
              have HTo := hide hTo
              have HO1 := hide (fun V => unhide HOn X Y V)
              rw [hX, hY] at HO1
              have Ho2 := hide (fun (j : Nat) (hj : i ≠ j) (ox oy : Int) (hb : D[j]? = some (ox, oy)) => unhide Ho1 i j hj _ _ hzi hb)
              generalize ix zx zy = XX at *
              generalize iy zx zy = YY at *
              have Hl := hide hli
              have hbN := bal (o := .cells #[.int .i64 zx, .int .i64 zy] 36) (Below.refl wr.heap.size wr)
              have SN := btrans hbel hbN
              have m := ((unhide HM0).keep SN).2.1
              have c := ((unhide HC0).keep (btrans (unhide HS) (btrans (unhide HSN) SN))).2
              clear hTo hX hY hr hzi hbel hbN hli hi
              go_wp2_with fail
              clear m c p2
              generalize wr.alloc (.cells #[.int .i64 zx, .int .i64 zy] 36) = wz at *
              refine (unhide HTo _).mono ?_
              rintro e w4 ⟨rfl, hb⟩
              have S4 := btrans SN hb
              clear hb SN
              go_wp2_with fail
              refine (unhide HO1 _).mono ?_
              rintro e w5 ⟨rfl, hb⟩
              have HS5 := hide (btrans (btrans S4 hb) (bal (o := .cells #[.int .i64 XX, .int .i64 YY] 36) (Below.refl w5.heap.size w5)))
              have HT5 := hide (Own.new w5 XX YY 36)
              clear hb S4 HTo HO1
              go_wp2
              generalize w5.alloc (.cells #[.int .i64 XX, .int .i64 YY] 36) = w6 at *
              generalize w5.heap.size = tb at *
              go_loopw [101] (fun i wr => ∃ k : Nat, k ≤ D.length ∧ i = .int .i64 k ∧ Below w6.heap.size w6 wr) (fun i _ => D.length - (intOf i).toNat)
              case atStart => exact ⟨0, Nat.zero_le _, rfl, Below.refl _ _⟩
              case round =>
                obtain ⟨j, hj, rfl, hbel⟩ := hrel
                by_cases hlj : j < D.length
                · have r1 : (0 : Int) ≤ (j : Int) := by omega
                  have r2 : (j : Int) < (D.length : Int) := by omega
                  obtain ⟨⟨ox, oy⟩, hoj⟩ : ∃ z, D[j]? = some z := ⟨_, List.getElem?_eq_getElem hlj⟩
                  have p3 := ((unhide Hz).keep (btrans (unhide HSN) (btrans (unhide HS5) hbel))).2 j _ hoj
                  have hne := fun hj => unhide Ho2 j hj ox oy hoj
                  have hbO := bal (o := .cells #[.int .i64 ox, .int .i64 oy] 36) (Below.refl wr.heap.size wr)
                  have HSO := hide (btrans hbel hbO)
                  have t := ((unhide HT5).keep (btrans hbel hbO)).2.1
                  have Hj := hide hlj
                  clear hoj hbel hbO hlj hj
                  by_cases hij : i = j
                  · subst hij
                    clear hne
                    go_wp2
                    go_roundw
                    case rel => exact ⟨i + 1, unhide Hj, by go_num, unhide HSO⟩
                    case measure => have := unhide Hj; simp [intOf]; omega
                  · have hn := hne hij
                    have hij2 : ((j : Int) != (i : Int)) = true := by simp; omega
                    clear hne
                    by_cases hX : XX = ox
                    · subst hX
                      have hY : (YY == oy) = false := by simp; exact fun k => hn ⟨rfl, k⟩
                      clear hn
                      go_wp2
                      go_roundw
                      case rel => exact ⟨j + 1, unhide Hj, by go_num, unhide HSO⟩
                      case measure => have := unhide Hj; simp [intOf]; omega
                    · have hXb : (XX == ox) = false := by simp [hX]
                      clear hn hX
                      go_wp2
                      go_roundw
                      case rel => exact ⟨j + 1, unhide Hj, by go_num, unhide HSO⟩
                      case measure => have := unhide Hj; simp [intOf]; omega
                · have e : D.length = j := by omega
                  have cl2 : ¬ ((j : Int) < (D.length : Int)) := by omega
                  have HSj := hide (btrans (unhide HS5) hbel)
                  clear hbel hj hlj e
                  go_wp2
                  go_roundw
                  case rel => exact ⟨i + 1, unhide Hl, by go_num, unhide HSj⟩
                  case measure => have := unhide Hl; simp [intOf]; omega
            · have cl2 : ¬ ((i : Int) < (D.length : Int)) := by omega
              have HSi := hide (btrans (unhide HSN) hbel)
              clear hbel hli hi
              go_wp2
              go_roundw
              case rel => exact ⟨k + 1, unhide Hl, by go_num, by rw [unhide Hnx]; go_num, unhide HSi⟩
              case measure => have := unhide Hl; simp [intOf]; omega
    · have e : L.length = k := by omega
      have cl : ¬ ((k : Int) < (L.length : Int)) := by omega
      rw [← e] at hsb ⊢
      rw [← unhide Hct] at hsb ⊢
      have HSe := hide (btrans (unhide HS) hbel)
      have b1 : D.length * L.length ≤ 3981312 := Nat.mul_le_mul (Nat.le_trans hD (by decide : 576 ≤ 576)) hL
      have m1 : IntKind.i64.wrap ((D.length : Int) * (L.length : Int)) = ((D.length * L.length : Nat) : Int) := by
        rw [← Int.natCast_mul]; exact (Go.IntWalk.i64_left _).trans (Go.IntWalk.wrap64_in _ (by omega))
      generalize D.length * L.length = P at *
      clear hbel hsb e
      go_wp2
      go_ret
      exact ⟨ret_bool (by simp), btrans (unhide HB) (unhide HSe)⟩
end Go.Proofs.Ytpcajcgafmmlkaa
