/-
  GroupMoved: the law's walk of a right chart and a right move.
-/
import Derived.Test.YtagiekbijmdmdaaMB
namespace Go.Proofs.Ytagiekbijmdmdaa
open Go.RowKit

/-- what Compose and Compose again and Keeps answer of one of the moves -/
def Turned (g : Int) (t : Nat) (f : Bool) (x y : Int) (U : Nat) (vx vy : Int) (K : World → Int → Bool → Int → Int → Prop) (a : Nat) (b : Bool) (X Y : Nat) : Prop :=
  (∃ T F u v er, er ≠ 0 ∧ ComposeIs g t f x y a b X Y T F u v er) ∨
  ∃ T F u v, ComposeIs g t f x y a b X Y T F u v 0 ∧
    ((∃ T' F' u' v' er, er ≠ 0 ∧ ComposeIs g T F u v U f vx vy T' F' u' v' er) ∨
     ∃ T' F' u' v', ComposeIs g T F u v U f vx vy T' F' u' v' 0 ∧ ∀ V, K V T' F' u' v')

abbrev put4 (W : World) (b : Nat) (t : Int) (f : Bool) (x y : Int) : World := (((W.setCell ⟨b, 0, none⟩ (.int .i64 t)).setCell ⟨b, 1, none⟩ (.bool f)).setCell ⟨b, 2, none⟩ (.int .i64 x)).setCell ⟨b, 3, none⟩ (.int .i64 y)
theorem OwnM.put {W : World} {b : Nat} {t : Int} {f : Bool} {x y : Int} (h : OwnM W b t f x y) (t' : Int) (f' : Bool) (x' y' : Int) : OwnM (put4 W b t' f' x' y') b t' f' x' y' := by
  obtain ⟨h1, ⟨h2, h3, h4, h5⟩, h6, h7, h8, h9⟩ := h
  exact ⟨by simpa using h1, ⟨by simp [go_sem, h2], by simp [go_sem, h3], by simp [go_sem, h4], by simp [go_sem, h5]⟩, by simp [go_sem, h6], by simp [go_sem, h7], by simp [go_sem, h8], by simp [go_sem, h9]⟩

set_option maxHeartbeats 8000000 in
set_option maxRecDepth 100000 in
theorem mvd_plain (g w h : Int) (p : Option Addr) (n cap : Nat) (t : Nat) (f : Bool) (x y : Int) (N : Nat) (U : Nat) (vx vy : Int) (P : Int → Int → Int) (L M : List Mv) (W : World) (hN : 1 ≤ N ∧ N ≤ 24)
    (Rc : World → Prop) (Rd : World → Nat → Prop) (Re : World → Nat → Prop) (hRc : ∀ V V', Rc V → Below V.heap.size V V' → Rc V') (hRd : ∀ V V' q, Rd V q → Below V.heap.size V V' → Rd V' q) (hRe : ∀ V V' q, Re V q → Below V.heap.size V V' → Re V' q)
    (H1 : ∀ V, Rc V → Calls Try.prog 22 #[Ch.ch g w h p n cap, .agg #[.int .i64 t, .bool f, .int .i64 x, .int .i64 y]] V fun e w' => ∃ q, e = .returned (.tuple #[Ch.ch g N N (some ⟨q, 0, none⟩) (N * N) (N * N), .int .i64 0]) ∧ Rd w' q ∧ Below V.heap.size V w')
    (H2 : InverseIs g t f x y U f vx vy 0)
    (H3 : ∀ V q, Rd V q → Calls Try.prog 22 #[Ch.ch g N N (some ⟨q, 0, none⟩) (N * N) (N * N), .agg #[.int .i64 U, .bool f, .int .i64 vx, .int .i64 vy]] V fun e w' => ∃ q, e = .returned (.tuple #[Ch.ch g N N (some ⟨q, 0, none⟩) (N * N) (N * N), .int .i64 0]) ∧ Re w' q ∧ Below V.heap.size V w')
    (H4 : ∀ V q i j, Re V q → Ch.AtIs 30 g N N (some ⟨q, 0, none⟩) (N * N) (N * N) i j V (P i j) 0)
    (H5 : ∀ V i j, Rc V → Ch.AtIs 30 g w h p n cap i j V (P i j) 0)
    (H6 : ∀ V, Rc V → Calls Try.prog 12 #[Ch.ch g w h p n cap] V fun e w' => ∃ q cp, e = .returned (.tuple #[.slice (some ⟨q, 0, none⟩) L.length cp, .int .i64 0]) ∧ MRow w' q L ∧ Below V.heap.size V w')
    (H7 : ∀ V q, Rd V q → Calls Try.prog 12 #[Ch.ch g N N (some ⟨q, 0, none⟩) (N * N) (N * N)] V fun e w' => ∃ q cp, e = .returned (.tuple #[.slice (some ⟨q, 0, none⟩) M.length cp, .int .i64 0]) ∧ Below V.heap.size V w')
    (hLM : L.length = M.length) (hL1 : 1 ≤ L.length) (hL2 : L.length ≤ 6912)
    (H8 : ∀ m ∈ L, Turned g t f x y U vx vy (fun V T F u v => ∀ q, Rd V q → KeepsIs 20 g N N (some ⟨q, 0, none⟩) (N * N) (N * N) T F u v V true 0) m.1 m.2.1 m.2.2.1 m.2.2.2)
    (hc : Rc W) : MvdIs g w h p n cap t f x y W := by
  have K1 := hide H1
  have K2 := hide H2
  have K3 := hide H3
  have K4 := hide H4
  have K5 := hide H5
  have K6 := hide H6
  have K7 := hide H7
  have K8 := hide H8
  have HLM := hide hLM
  rw [← hLM] at K7
  have B0 := bal (o := .cells #[.int .i64 t, .bool f, .int .i64 x, .int .i64 y] 45) (bal (o := .cells #[.int .i64 g, .int .i64 w, .int .i64 h, .slice p n cap] 24) (Below.refl W.heap.size W))
  have Hr := hide (hRc _ _ hc B0)
  have HB := hide B0
  have HC0 := hide ((Ch.OwnC.new W g w h p n cap 24).alloc (.cells #[.int .i64 t, .bool f, .int .i64 x, .int .i64 y] 45))
  have M0 := OwnM.new (W.alloc (.cells #[.int .i64 g, .int .i64 w, .int .i64 h, .slice p n cap] 24)) t f x y 45
  rw [World.size_alloc] at M0
  have HM0 := hide M0
  have HRc := hide hRc
  have HRd := hide hRd
  have HRe := hide hRe
  clear hc B0 M0 H1 H2 H3 H4 H5 H6 H7 H8 hLM hRc hRd hRe
  unfold MvdIs
  go_enter Try.func9, Try.ntmps9
  go_wp2_with fail
  generalize (W.alloc (.cells #[.int .i64 g, .int .i64 w, .int .i64 h, .slice p n cap] 24)).alloc (.cells #[.int .i64 t, .bool f, .int .i64 x, .int .i64 y] 45) = w0 at *
  refine (alive_any _).mono ?_
  rintro e w1 ⟨rfl, hb⟩
  have S1 := hb
  have c := ((unhide HC0).keep S1).2
  have mm := ((unhide HM0).keep S1).2.1
  go_wp2_with fail
  clear c mm
  refine (unhide K1 _ (unhide HRc _ _ (unhide Hr) S1)).mono ?_
  rintro e w2 ⟨q, rfl, hd, hb⟩
  have hb2 := bal (o := .cells #[.int .i64 g, .int .i64 N, .int .i64 N, .slice (some ⟨q, 0, none⟩) (N * N) (N * N)] 24) hb
  have S2 := btrans S1 hb2
  have Hd2 := hide (unhide HRd _ _ _ hd (bal (o := .cells #[.int .i64 g, .int .i64 N, .int .i64 N, .slice (some ⟨q, 0, none⟩) (N * N) (N * N)] 24) (Below.refl _ _)))
  have HD2 := hide (Ch.OwnC.new w2 g N N (some ⟨q, 0, none⟩) (N * N) (N * N) 24)
  have c := ((unhide HC0).keep S2).2
  have mm := ((unhide HM0).keep S2).2.1
  clear hb hb2 S1 hd K1
  go_wp2_with fail
  clear c mm
  generalize w2.alloc (.cells #[.int .i64 g, .int .i64 N, .int .i64 N, .slice (some ⟨q, 0, none⟩) (N * N) (N * N)] 24) = w3 at *
  generalize w2.heap.size = bd at *
  refine (unhide K2 _).mono ?_
  rintro e w4 ⟨rfl, hb⟩
  have hb4 := bal (o := .cells #[.int .i64 U, .bool f, .int .i64 vx, .int .i64 vy] 45) hb
  have S4 := btrans S2 hb4
  have Hd4 := hide (unhide HRd _ _ _ (unhide Hd2) hb4)
  have HD4 := hide ((unhide HD2).keep hb4)
  have HI4 := hide (OwnM.new w4 U f vx vy 45)
  have c := (unhide HD4).2
  have mm := (unhide HI4).2.1
  clear hb hb4 S2 Hd2 HD2 K2
  go_wp2_with fail
  clear c mm
  generalize w4.alloc (.cells #[.int .i64 U, .bool f, .int .i64 vx, .int .i64 vy] 45) = w5 at *
  generalize w4.heap.size = bi at *
  refine (unhide K3 _ _ (unhide Hd4)).mono ?_
  rintro e w6 ⟨q2, rfl, he, hb⟩
  have hb6 := bal (o := .cells #[.int .i64 g, .int .i64 N, .int .i64 N, .slice (some ⟨q2, 0, none⟩) (N * N) (N * N)] 24) hb
  have S6 := btrans S4 hb6
  have Hd := hide (unhide HRd _ _ _ (unhide Hd4) hb6)
  have HD := hide ((unhide HD4).keep hb6)
  have HI := hide ((unhide HI4).keep hb6)
  have He := hide (unhide HRe _ _ _ he (bal (o := .cells #[.int .i64 g, .int .i64 N, .int .i64 N, .slice (some ⟨q2, 0, none⟩) (N * N) (N * N)] 24) (Below.refl _ _)))
  have HE := hide (Ch.OwnC.new w6 g N N (some ⟨q2, 0, none⟩) (N * N) (N * N) 24)
  clear hb hb6 S4 Hd4 HD4 HI4 K3 he
  have Hc := hide (unhide HRc _ _ (unhide Hr) S6)
  have HC := hide ((unhide HC0).keep S6)
  have HF := hide ((unhide HM0).keep S6)
  clear Hr HC0 HM0
  have HS := hide (btrans (unhide HB) S6)
  clear S6 HB
  go_wp2
  generalize w6.alloc (.cells #[.int .i64 g, .int .i64 N, .int .i64 N, .slice (some ⟨q2, 0, none⟩) (N * N) (N * N)] 24) = wB at *
  generalize w6.heap.size = be at *
  go_loopw [9] (fun v wr => ∃ i : Nat, i ≤ N ∧ v = .int .i64 i ∧ Below wB.heap.size wB wr) (fun v _ => N - (intOf v).toNat)
  case atStart => exact ⟨0, Nat.zero_le _, rfl, Below.refl _ _⟩
  case round =>
    obtain ⟨i, hi, rfl, hbel⟩ := hrel
    by_cases hlt : i < N
    · have hlt' : (i : Int) < (N : Int) := by omega
      have c := ((unhide HE).keep hbel).2
      go_wp2
      clear c
      obtain ⟨wo, rfl⟩ : ∃ wo : World, wo = wr := ⟨_, rfl⟩
      have Hb1 := hide hbel
      clear hbel
      go_loopw [10] (fun v wr2 => ∃ j : Nat, j ≤ N ∧ v = .int .i64 j ∧ Below wB.heap.size wB wr2) (fun v _ => N - (intOf v).toNat)
      case atStart => exact ⟨0, Nat.zero_le _, rfl, unhide Hb1⟩
      case round =>
        clear Hb1
        obtain ⟨j, hj, rfl, hbel⟩ := hrel
        by_cases hltj : j < N
        · have hltj' : (j : Int) < (N : Int) := by omega
          have HA1 := hide (fun V (hb : Below wB.heap.size wB V) => unhide K4 V q2 j i (unhide HRe _ _ _ (unhide He) hb))
          have HA2 := hide (fun V (hb : Below wB.heap.size wB V) => unhide K5 V j i (unhide HRc _ _ (unhide Hc) hb))
          generalize P j i = p1 at *
          have c := ((unhide HE).keep hbel).2
          go_wp2_with fail
          clear c
          refine (unhide HA1 _ hbel).mono ?_
          rintro e w5 ⟨rfl, hb⟩
          have S5 := btrans hbel hb
          clear hb hbel
          have c := ((unhide HC).keep S5).2
          go_wp2_with fail
          clear c
          refine (unhide HA2 _ S5).mono ?_
          rintro e w6 ⟨rfl, hb⟩
          have S6 := btrans S5 hb
          clear hb S5
          have Hb1 := hide S6
          clear S6
          go_wp2
          go_roundw
          case rel => exact ⟨j + 1, by omega, by go_num, unhide Hb1⟩
          case measure => simp [intOf]; omega
        · have e : j = N := by omega
          subst e
          have cl : ¬ ((j : Int) < (j : Int)) := by omega
          have c := ((unhide HE).keep hbel).2
          have Hb1 := hide hbel
          clear hbel
          go_wp2
          clear c
          go_roundw
          case rel => exact ⟨i + 1, by omega, by go_num, unhide Hb1⟩
          case measure => simp [intOf]; omega
    · have e : i = N := by omega
      subst e
      have cl : ¬ ((i : Int) < (i : Int)) := by omega
      have c := ((unhide HE).keep hbel).2
      have d := ((unhide HC).keep hbel).2
      go_wp2_with fail
      clear c d
      refine (unhide K6 _ (unhide HRc _ _ (unhide Hc) hbel)).mono ?_
      rintro e w7 ⟨q7, cp7, rfl, hm, hb⟩
      have S7 := btrans hbel hb
      have Hm7 := hide hm
      have d := ((unhide HD).keep S7).2
      clear hb hbel hm
      go_wp2_with fail
      clear d
      refine (unhide K7 _ _ (unhide HRd _ _ _ (unhide Hd) S7)).mono ?_
      rintro e w8 ⟨q8, cp8, rfl, hb⟩
      have S8 := hide (btrans S7 hb)
      have Hm8 := hide ((unhide Hm7).keep hb)
      have hl0 : ((L.length : Int) == 0) = false := beq_eq_false_iff_ne.2 (by omega)
      clear hb S7 Hm7
      go_wp2
      go_loopw [119] (fun v wr => ∃ k : Nat, k ≤ L.length ∧ v = .int .i64 k ∧ MRow wr q7 L ∧ Below wB.heap.size wB wr) (fun v _ => L.length - (intOf v).toNat)
      case atStart => exact ⟨0, Nat.zero_le _, rfl, unhide Hm8, unhide S8⟩
      case round =>
        clear Hm8 S8 K4 K5 K6 K7 He HE hl0
        obtain ⟨k, hk, rfl, hm, hbel⟩ := hrel
        by_cases hlt : k < L.length
        · have q1 : (0 : Int) ≤ (k : Int) := by omega
          have q2' : (k : Int) < (L.length : Int) := by omega
          obtain ⟨⟨a, b, X, Y⟩, hmk⟩ : ∃ m, L[k]? = some m := ⟨_, List.getElem?_eq_getElem hlt⟩
          have p1 := hm.2 k _ hmk
          have ht := unhide K8 _ (List.mem_of_getElem? hmk)
          have Hl := hide hlt
          have HmR := hide hm
          have hbN := bal (o := .cells #[.int .i64 a, .bool b, .int .i64 X, .int .i64 Y] 45) (Below.refl wr.heap.size wr)
          have SN := btrans hbel hbN
          have HmN := hide (hm.keep hbN)
          have c := ((unhide HC).keep SN).2
          have mf := ((unhide HF).keep SN).2.1
          clear hmk hm K8 HmR hbN hbel
          dsimp only at ht
          rcases ht with ⟨T, F, u, v, er, her, hC1⟩ | ⟨T, F, u, v, hC1, ht⟩
          · have HC1 := hide hC1
            have hee : (er != 0) = true := by simp [her]
            clear hC1 her
            go_wp2_with fail
            clear c mf p1
            generalize wr.alloc (.cells #[.int .i64 a, .bool b, .int .i64 X, .int .i64 Y] 45) = wN at *
            refine (unhide HC1 _).mono ?_
            rintro e w9 ⟨rfl, hb⟩
            have hb9 := bal (o := .cells #[.int .i64 T, .bool F, .int .i64 u, .int .i64 v] 45) hb
            have S9 := hide (btrans SN hb9)
            have Hm9 := hide ((unhide HmN).keep hb9)
            clear hb hb9 SN HmN HC1
            go_wp2
            go_roundw
            case rel => exact ⟨k + 1, unhide Hl, by go_num, unhide Hm9, unhide S9⟩
            case measure => have := unhide Hl; simp [intOf]; omega
          · have HC1 := hide hC1
            clear hC1
            rcases ht with ⟨T', F', u', v', er, her, hC2⟩ | ⟨T', F', u', v', hC2, hK⟩
            · have HC2 := hide hC2
              have hee : (er != 0) = true := by simp [her]
              clear hC2 her
              go_wp2_with fail
              clear c mf p1
              generalize wr.alloc (.cells #[.int .i64 a, .bool b, .int .i64 X, .int .i64 Y] 45) = wN at *
              refine (unhide HC1 _).mono ?_
              rintro e w9 ⟨rfl, hb⟩
              have S9 := btrans SN hb
              have Hm9 := hide ((unhide HmN).keep hb)
              have hb9 := bal (o := .cells #[.int .i64 T, .bool F, .int .i64 u, .int .i64 v] 45) (Below.refl w9.heap.size w9)
              have SA := btrans S9 hb9
              have c := ((unhide HC).keep SA).2
              have mi := ((unhide HI).keep SA).2.1
              have HX := hide (OwnM.new w9 T F u v 45)
              have Hb9 := hide hb9
              have HS9 := hide S9
              clear hb hb9 SN HmN HC1 S9
              go_wp2_with fail
              clear c mi SA
              generalize w9.alloc (.cells #[.int .i64 T, .bool F, .int .i64 u, .int .i64 v] 45) = wA at *
              refine (unhide HC2 _).mono ?_
              rintro e wC ⟨rfl, hb⟩
              have Hput := hide (((unhide HX).keep hb).put T' F' u' v')
              have hfz := ((unhide HX).keep hb).2.2
              have hcl := ((unhide HX).keep hb).2.1
              have HbC := hide (show Below w9.heap.size w9 (put4 wC w9.heap.size T' F' u' v') from bset (bset (bset (bset (btrans (unhide Hb9) hb) (Nat.le_refl _)) (Nat.le_refl _)) (Nat.le_refl _)) (Nat.le_refl _))
              have HSC := hide (btrans (unhide HS9) (unhide HbC))
              have HmC := hide ((unhide Hm9).keep (unhide HbC))
              clear hb HX Hb9 HS9 Hm9 HC2 HbC
              go_wp2
              go_roundw
              case rel => exact ⟨k + 1, unhide Hl, by go_num, unhide HmC, unhide HSC⟩
              case measure => have := unhide Hl; simp [intOf]; omega
            · have HC2 := hide hC2
              have HK := hide hK
              clear hC2 hK
              go_wp2_with fail
              clear c mf p1
              generalize wr.alloc (.cells #[.int .i64 a, .bool b, .int .i64 X, .int .i64 Y] 45) = wN at *
              refine (unhide HC1 _).mono ?_
              rintro e w9 ⟨rfl, hb⟩
              have S9 := btrans SN hb
              have Hm9 := hide ((unhide HmN).keep hb)
              have hb9 := bal (o := .cells #[.int .i64 T, .bool F, .int .i64 u, .int .i64 v] 45) (Below.refl w9.heap.size w9)
              have SA := btrans S9 hb9
              have c := ((unhide HC).keep SA).2
              have mi := ((unhide HI).keep SA).2.1
              have HX := hide (OwnM.new w9 T F u v 45)
              have Hb9 := hide hb9
              have HS9 := hide S9
              clear hb hb9 SN HmN HC1 S9
              go_wp2_with fail
              clear c mi SA
              generalize w9.alloc (.cells #[.int .i64 T, .bool F, .int .i64 u, .int .i64 v] 45) = wA at *
              refine (unhide HC2 _).mono ?_
              rintro e wC ⟨rfl, hb⟩
              have Hput := hide (((unhide HX).keep hb).put T' F' u' v')
              have hfz := ((unhide HX).keep hb).2.2
              have hcl := ((unhide HX).keep hb).2.1
              have HbC := hide (show Below w9.heap.size w9 (put4 wC w9.heap.size T' F' u' v') from bset (bset (bset (bset (btrans (unhide Hb9) hb) (Nat.le_refl _)) (Nat.le_refl _)) (Nat.le_refl _)) (Nat.le_refl _))
              have HSC := hide (btrans (unhide HS9) (unhide HbC))
              have HmC := hide ((unhide Hm9).keep (unhide HbC))
              clear hb HX Hb9 HS9 Hm9 HC2 HbC
              have d := ((unhide HD).keep (unhide HSC)).2
              have mx := (unhide Hput).2.1
              go_wp2_with fail
              clear d mx hfz hcl
              refine (unhide HK _ _ (unhide HRd _ _ _ (unhide Hd) (unhide HSC))).mono ?_
              rintro e wE ⟨rfl, hb⟩
              have SE := hide (btrans (unhide HSC) hb)
              have HmE := hide ((unhide HmC).keep hb)
              clear hb HSC HmC Hput HK
              go_wp2
              go_roundw
              case rel => exact ⟨k + 1, unhide Hl, by go_num, unhide HmE, unhide SE⟩
              case measure => have := unhide Hl; simp [intOf]; omega
        · have e : k = L.length := by omega
          subst e
          have cl : ¬ ((L.length : Int) < (L.length : Int)) := by omega
          have HbE := hide hbel
          clear hbel hm
          go_wp2
          go_ret
          exact ⟨ret_bool (by simp), btrans (unhide HS) (unhide HbE)⟩
end Go.Proofs.Ytagiekbijmdmdaa
