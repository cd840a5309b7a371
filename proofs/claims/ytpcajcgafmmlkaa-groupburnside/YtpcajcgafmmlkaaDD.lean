/-
  domain of package group: the sweep.
-/
import Derived.Test.YtpcajcgafmmlkaaDC
namespace Go.Proofs.Ytpcajcgafmmlkaa
open Go.RowKit

theorem BRow.grown {a c : World} {row : Option Nat} {b k : Nat} {f : Nat → Bool} (h : BRow a b k f) (hg : a.grownBy c row) (hne : some b ≠ row) : BRow c b k f :=
  ⟨Nat.lt_of_lt_of_le h.1 hg.size, fun j hj => ⟨gcell hg h.1 hne (h.2 j hj).1, by
    have hb := hg.block b h.1 hne
    have := (h.2 j hj).2
    unfold World.frozen? at this ⊢
    rw [hb]
    exact this⟩⟩
theorem gmore {a b c : World} {o : Nat} {row : Option Nat} (h : a.grownBy b (some o)) (k : b.grownBy c row) (hr : ∀ j, row = some j → a.heap.size ≤ j) : a.grownBy c (some o) := by
  refine ⟨by rw [k.os, h.os], by rw [k.tape, h.tape], by rw [k.output, h.output], by have := h.size; have := k.size; omega, ?_⟩
  intro i hi hne
  have hs := h.size
  rw [k.block i (by omega) (fun e => by have := hr i e.symm; omega)]
  exact h.block i hi hne
theorem MRow.grown {a c : World} {row : Option Nat} {b : Nat} {L : List Mv} (h : MRow a b L) (hg : a.grownBy c row) (hne : some b ≠ row) : MRow c b L :=
  ⟨Nat.lt_of_lt_of_le h.1 hg.size, fun j m hm => ⟨gcell hg h.1 hne (h.2 j m hm).1, gcell hg h.1 hne (h.2 j m hm).2.1, gcell hg h.1 hne (h.2 j m hm).2.2.1, gcell hg h.1 hne (h.2 j m hm).2.2.2⟩⟩

set_option maxHeartbeats 8000000 in
set_option maxRecDepth 100000 in
theorem domain_plain (g : Int) (N b k cap : Nat) (L : List Mv) (I : Mv → Nat → Nat) (Rc : World → Prop) (w : World) (hN : 1 ≤ N ∧ N ≤ 24) (hk : k = N * N) (hL : L.length ≤ 6912)
    (hRc : ∀ V V', Rc V → Below V.heap.size V V' → Rc V')
    (H1 : ∀ V, Rc V → Calls Try.prog 20 #[tv g N (some ⟨b, 0, none⟩) k cap] V fun e V' => ∃ q cp, e = .returned (.slice (some ⟨q, 0, none⟩) L.length cp) ∧ MRow V' q L ∧ Below V.heap.size V V')
    (H2 : ∀ m ∈ L, ∀ i : Nat, i < k → ∃ X Y : Int, ApplyIs g m.1 m.2.1 m.2.2.1 m.2.2.2 ((i : Int) % N) ((i : Int) / N) X Y 0 ∧ Y % N * N + X % N = (I m i : Nat) ∧ I m i < k)
    (hc : Rc w) : Calls Try.prog 23 #[tv g N (some ⟨b, 0, none⟩) k cap] w fun e V => ∃ v, e = .returned v ∧ V.ownsRow w.heap.size 36 2 v (dO I L N k).length (zsV (dO I L N k)) ∧ Below w.heap.size w V := by
  have hk5 : k ≤ 576 := by rw [hk]; exact Nat.mul_le_mul hN.2 hN.2
  obtain ⟨i0, hi, hz0, hz1, hz2⟩ := info_parts info4
  obtain ⟨j0, ji, jz0, jz1, jz2⟩ := info_parts info33
  have hby : i0.bytes * k ≤ 281474976710656 := by rw [hz2]; omega
  have hml : k ≤ maxLen := by unfold maxLen; omega
  have K1 := hide H1
  have K2 := hide H2
  have HPt := hide (fun (V : World) (i : Nat) (hi : i < k) => point_any g N (some ⟨b, 0, none⟩) k cap i V (by omega) (by omega))
  have HO := hide (fun (V : World) (X Y : Int) => onto_any g N (some ⟨b, 0, none⟩) k cap X Y V (by omega))
  have HCl := hide (fun (V : World) (X Y : Int) => gcell_any g N (some ⟨b, 0, none⟩) k cap (X % N) (Y % N) V (by omega) (em_range X N hN) (em_range Y N hN))
  have B0 := bal (o := .cells #[.int .i64 g, .int .i64 N, .slice (some ⟨b, 0, none⟩) k cap] 51) (Below.refl w.heap.size w)
  have Hr := hide (hRc _ _ hc B0)
  have HB := hide B0
  have HT0 := hide (OwnT.new w g N (some ⟨b, 0, none⟩) k cap 51)
  have hs0 : w.heap.size < (w.alloc (.cells #[.int .i64 g, .int .i64 N, .slice (some ⟨b, 0, none⟩) k cap] 51)).heap.size := by simp
  clear hc B0 H1 H2 hRc hk
  go_enter Try.func23, Try.ntmps23
  go_wp2_with fail
  generalize w.alloc (.cells #[.int .i64 g, .int .i64 N, .slice (some ⟨b, 0, none⟩) k cap] 51) = w0 at *
  refine (unhide K1 _ (unhide Hr)).mono ?_
  rintro e w1 ⟨q, cp, rfl, hm, hb⟩
  have T1 := (unhide HT0).keep hb
  have S1 := btrans (unhide HB) hb
  have hw1 : w.heap.size < w1.heap.size := Nat.lt_of_lt_of_le hs0 hb.size
  have t1 := T1.2
  clear hb HB HT0 Hr K1 hs0
  go_wp2_with (refine wpList_make_full _ rfl _ _ 73 rfl w1.heap.size 4 i0 _ 1 Try.underlying73 hi hz0 hz1 .i64 .i64 (k : Int) (k : Int) k rfl rfl rfl rfl hby hml (by simp) ?_)
  clear t1
  intro wm hown hgrow
  have R0 := brow_made hown
  have S0 := (Below.refl w1.heap.size w1).grown hgrow (Nat.le_refl _) (fun k hk => by cases hk)
  have T2 := T1.keep S0
  have M2 := hm.keep S0
  have hqb : q < w1.heap.size := hm.1
  have S2 := btrans S1 S0
  have HT2 := hide T2
  have HM2 := hide M2
  have HR0 := hide R0
  have HS2 := hide S2
  have hzm : w1.heap.size < wm.heap.size := R0.1
  have t2 := T2.2
  clear hown hgrow S0 T1 S1 hm hby hml hi hz0 hz1 hz2 M2 S2 R0 T2
  go_wp2
  clear t2
  go_loopw [5, 21] (fun v c wr => ∃ i : Nat, i ≤ k ∧ c = .int .i64 i ∧ wr.ownsRow wm.heap.size 36 2 v (dO I L N i).length (zsV (dO I L N i)) ∧ BRow wr w1.heap.size k (dR I L i) ∧ wm.grownBy wr (some w1.heap.size)) (fun _ c _ => k - (intOf c).toNat)
  case atStart => exact ⟨0, Nat.zero_le _, rfl, by simpa [dO, zsV] using World.ownsRow_nil wm wm.heap.size 36 2, unhide HR0, World.grownBy.refl _ _⟩
  case round =>
    obtain ⟨i, hik, rfl, hown, hR, hgr⟩ := hrel
    by_cases hlt : i < k
    · have q1 : (0 : Int) ≤ (i : Int) := by omega
      have q2 : (i : Int) < (k : Int) := by omega
      have r1 := (hR.2 i hlt).1
      cases hd : dR I L i i with
      | true =>
        rw [hd] at r1
        have Hs := hide (show dO I L N (i + 1) = dO I L N i by rw [dO_succ, hd]; simp)
        have Hd := hide (show dR I L (i + 1) = dR I L i by funext j; simp [dR, hd])
        have Hown := hide hown
        have HR := hide hR
        have Hg := hide hgr
        clear hown hR hgr hd
        go_wp2
        go_roundw
        case rel => exact ⟨i + 1, by omega, by go_num, by rw [unhide Hs]; exact unhide Hown, by rw [unhide Hd]; exact unhide HR, unhide Hg⟩
        case measure => simp [intOf]; omega
      | false =>
        rw [hd] at r1
        have Hs := hide (show dO I L N (i + 1) = dO I L N i ++ [((i : Int) % N, (i : Int) / N)] by rw [dO_succ, hd, Int.natCast_emod, Int.natCast_ediv]; simp)
        have Hd := hide (show dR I L (i + 1) = fun j => dR I L i j || L.any fun m => I m i == j by funext j; simp [dR, hd])
        have hlD : (dO I L N i).length ≤ 576 := by
          unfold dO
          rw [List.length_map]
          exact Nat.le_trans (List.length_filter_le _ _) (by simp; omega)
        have K3 := hide (fun m hm => unhide K2 m hm i hlt)
        have HP1 := hide (fun V => unhide HPt V i hlt)
        generalize dO I L N i = D at *
        generalize dR I L i = F0 at *
        generalize (i : Int) % (N : Int) = PX at *
        generalize (i : Int) / (N : Int) = PY at *
        have n1 : some w.heap.size ≠ some w1.heap.size := fun e => by have := Option.some.inj e; omega
        have n2 : some q ≠ some w1.heap.size := fun e => by have := Option.some.inj e; omega
        have T4 := (unhide HT2).grown hgr n1
        have t4 := T4.2
        have hsz := hgr.size
        go_wp2_with fail
        clear t4 r1
        refine (unhide HP1 _).mono ?_
        rintro e w4 ⟨rfl, hb⟩
        have own4 := own_keep hown hb
        have R4' := hR.keep hb
        have g4 := gtrans hgr (gbelow (some w1.heap.size) hb)
        have hs4 := g4.size
        clear hb hown hR hgr T4 hsz hd
        go_wp2_with (at_builtin; refine wpList_append_own _ rfl _ _ 32 rfl wm.heap.size 36 j0 (.agg #[.int .i64 0, .int .i64 0]) 2 16 Try.underlying32 ji jz0 jz1 jz2 rfl (by decide) _ _ _ rfl ((own4.alloc _).alloc _) ⟨w4.heap.size + 1, 0, none⟩ 1 1 (zC (PX, PY)) rfl rfl ?c1 ?c2 ?c3 ?c4 ?c5 ?_)
        case c1 =>
          intro j u hj
          match j, hj with
          | 0, hj => simp [zC] at hj; subst hj; simp [go_sem]
          | 1, hj => simp [zC] at hj; subst hj; simp [go_sem]
          | j + 2, hj => simp [zC] at hj
        case c2 => intro u hu; simp [zC] at hu; rcases hu with rfl | rfl <;> rfl
        case c3 => unfold maxLen; omega
        case c4 => omega
        case c5 => first | omega | (simp; omega)
        intro v' w6 hown' hgrow _
        have Z5 := ((Own.new w4 PX PY 36).alloc (.cells #[.int .i64 PX, .int .i64 PY] 36))
        have B5 := bal (o := .cells #[.int .i64 PX, .int .i64 PY] 36) (bal (o := .cells #[.int .i64 PX, .int .i64 PY] 36) (Below.refl w4.heap.size w4))
        have hbR : w1.heap.size < w4.heap.size := by omega
        have R6 := (R4'.keep B5).grown hgrow (fun e => by have := (own4.lt _ e.symm).1; omega)
        have g6 := gmore (gtrans g4 (gbelow (some w1.heap.size) B5)) hgrow (fun j hj => (own4.lt j hj).1)
        have z6 := Z5.grown2 hgrow (fun e => by have := (own4.lt _ e.symm).2; omega)
        have hz6 : w4.heap.size < w6.heap.size := Nat.lt_of_lt_of_le Z5.1 hgrow.size
        have hown6 : w6.ownsRow wm.heap.size 36 2 v' (dO I L N (i + 1)).length (zsV (dO I L N (i + 1))) := by rw [unhide Hs, List.length_append, zsV_snoc]; exact hown'
        generalize hE : dO I L N (i + 1) = E at *
        have HE := hide hE
        clear hE
        have HZ6 := hide z6
        have HG6 := hide g6
        have HR6 := hide R6
        have HO6 := hide hown6
        clear hgrow own4 R4' g4 Z5 B5 R6 g6 z6 hown' hown6 Hs hs4 HP1
        go_wp2
        go_loopw [37] (fun c wr => ∃ kk : Nat, kk ≤ L.length ∧ c = .int .i64 kk ∧ BRow wr w1.heap.size k (fun j => F0 j || (L.take kk).any fun m => I m i == j) ∧ wr.ownsRow wm.heap.size 36 2 v' E.length (zsV E) ∧ w6.grownBy wr (some w1.heap.size)) (fun c _ => L.length - (intOf c).toNat)
        case atStart => exact ⟨0, Nat.zero_le _, rfl, by simpa using unhide HR6, unhide HO6, World.grownBy.refl _ _⟩
        case round =>
          clear HR6 HO6
          obtain ⟨kk, hkk, rfl, hR, hown, hgr⟩ := hrel
          by_cases hlk : kk < L.length
          · have q3 : (0 : Int) ≤ (kk : Int) := by omega
            have q4 : (kk : Int) < (L.length : Int) := by omega
            obtain ⟨⟨a, f, U, V⟩, hmk⟩ : ∃ m, L[kk]? = some m := ⟨_, List.getElem?_eq_getElem hlk⟩
            have gW := gtrans (unhide HG6) hgr
            have hmem := List.mem_of_getElem? hmk
            have p1 := ((unhide HM2).grown gW n2).2 kk _ hmk
            obtain ⟨X, Y, hAp, hI, hIk⟩ := unhide K3 _ hmem
            have Htake := hide (show (fun j => F0 j || (L.take (kk + 1)).any fun m => I m i == j) = (fun j => (F0 j || (L.take kk).any fun m => I m i == j) || I (a, f, U, V) i == j) by
              funext j
              rw [List.take_add_one, hmk]
              simp [Bool.or_assoc])
            generalize I (a, f, U, V) i = J at *
            dsimp only at hAp
            have HAp := hide hAp
            have Hl := hide hlk
            have hbN := bal (o := .cells #[.int .i64 a, .bool f, .int .i64 U, .int .i64 V] 38) (Below.refl wr.heap.size wr)
            have TN := ((unhide HT2).grown gW n1).keep hbN
            have tN := TN.2
            have n3 : some w4.heap.size ≠ some w1.heap.size := fun e => by have := Option.some.inj e; omega
            have hz6' : w4.heap.size < wr.heap.size := Nat.lt_of_lt_of_le hz6 hgr.size
            have zN0 := keepC hbN hz6' (gcell hgr hz6 n3 (unhide HZ6).1)
            have zN1 := keepC hbN hz6' (gcell hgr hz6 n3 (unhide HZ6).2)
            have HRN := hide (hR.keep hbN)
            have HON := hide (own_keep hown hbN)
            have HgN := hide (gtrans hgr (gbelow (some w1.heap.size) hbN))
            have HTN := hide TN
            clear hmk hmem hAp hlk hbN TN hR hown hgr gW
            go_wp2_with fail
            clear tN zN0 zN1 p1
            generalize wr.alloc (.cells #[.int .i64 a, .bool f, .int .i64 U, .int .i64 V] 38) = wN at *
            refine (unhide HAp _).mono ?_
            rintro e w8 ⟨rfl, hb⟩
            have hb8 := bal (o := .cells #[.int .i64 X, .int .i64 Y] 36) hb
            have T9 := (unhide HTN).keep hb8
            have Z9 := Own.new w8 X Y 36
            have R9 := (unhide HRN).keep hb8
            have O9 := hide (own_keep (unhide HON) hb8)
            have G9 := hide (gtrans (unhide HgN) (gbelow (some w1.heap.size) hb8))
            have n5 : some w8.heap.size ≠ some w1.heap.size := fun e => by have := Option.some.inj e; have := (unhide HRN).1; have := hb.size; omega
            go_wp2_with fail
            generalize w8.alloc (.cells #[.int .i64 X, .int .i64 Y] 36) = w9 at *
            have Mk := hide (show ∀ V, w9.grownBy V (some w1.heap.size) → (V.cell? ⟨w.heap.size, 0, none⟩ = some (.int .i64 g) ∧ V.cell? ⟨w.heap.size, 1, none⟩ = some (.int .i64 N) ∧ V.cell? ⟨w.heap.size, 2, none⟩ = some (.slice (some ⟨b, 0, none⟩) k cap)) ∧ (V.cell? ⟨w8.heap.size, 0, none⟩ = some (.int .i64 X) ∧ V.cell? ⟨w8.heap.size, 1, none⟩ = some (.int .i64 Y)) from fun V hV => ⟨(T9.grown hV n1).2, Z9.grown2 hV n5⟩)
            have HR9 := hide R9
            have HC1 := hide (fun V => by have := unhide HCl V X Y; rw [hI] at this; exact this)
            have q5 : (0 : Int) ≤ (J : Int) := by omega
            have q6 : (J : Int) < (k : Int) := by omega
            clear T9 Z9 R9 hb hb8 n5 HRN HON HgN HTN HAp hI
            have hb2 := True.intro
            have hb3 := True.intro
            go_region_held3 (fun V => (w9.grownBy V (some w1.heap.size) ∧ w9.heap.size ≤ V.heap.size) ∧ ((V.cell? ⟨w.heap.size, 0, none⟩ = some (.int .i64 g) ∧ V.cell? ⟨w.heap.size, 1, none⟩ = some (.int .i64 N) ∧ V.cell? ⟨w.heap.size, 2, none⟩ = some (.slice (some ⟨b, 0, none⟩) k cap)) ∧ (V.cell? ⟨w8.heap.size, 0, none⟩ = some (.int .i64 X) ∧ V.cell? ⟨w8.heap.size, 1, none⟩ = some (.int .i64 Y))) ∧ V.cell? ⟨w1.heap.size, J, none⟩ = some (hat V w1.heap.size J) ∧ V.frozen? ⟨w1.heap.size, J, none⟩ = false)
              (first
                | (exact ⟨⟨gbelow _ (Below.drew (Below.refl _ _)), Nat.le_refl _⟩, unhide Mk _ (gbelow _ (Below.drew (Below.refl _ _))), hat_of (((unhide HR9).keep (Below.drew (Below.refl _ _))).2 J hIk).1, (((unhide HR9).keep (Below.drew (Below.refl _ _))).2 J hIk).2⟩)
                | (exact ⟨⟨gbelow _ hb3, hb3.size⟩, unhide Mk _ (gbelow _ hb3), hat_of (((unhide HR9).keep hb3).2 J hIk).1, (((unhide HR9).keep hb3).2 J hIk).2⟩)
                | (exact ⟨⟨gbelow _ hb2, hb2.size⟩, unhide Mk _ (gbelow _ hb2), hat_of (((unhide HR9).keep hb2).2 J hIk).1, (((unhide HR9).keep hb2).2 J hIk).2⟩)
                | (exact ⟨⟨gset (gbelow _ hb3) J _, by simpa using hb3.size⟩, unhide Mk _ (gset (gbelow _ hb3) J _), hat_of ((((unhide HR9).keep hb3).set J).2 J hIk).1, ((((unhide HR9).keep hb3).set J).2 J hIk).2⟩))
              (first
                | (go_at_call 41; refine (unhide HO _ X Y).mono ?_; rintro e w10 ⟨rfl, hb⟩; have hb2 := btrans (Below.drew (Below.refl w9.heap.size w9)) hb)
                | (go_at_call 40; refine (unhide HC1 _).mono ?_; rintro e w11 ⟨rfl, hb⟩; have hb3 := btrans hb2 hb))
            have R11 := hide (((unhide HR9).keep hb3).set J)
            have g11 := hide (gtrans (unhide G9) (gset (gbelow (some w1.heap.size) hb3) J (.bool true)))
            have O11 := hide (below_setCell_own (a := ⟨w1.heap.size, J, none⟩) (u := .bool true) (own_keep (unhide O9) hb3) (by dsimp only; omega))
            clear Mk hb hb2 hb3 HR9 G9 O9
            go_wp2
            go_roundw
            case rel => exact ⟨kk + 1, unhide Hl, by go_num, by rw [unhide Htake]; exact unhide R11, unhide O11, unhide g11⟩
            case measure => have := unhide Hl; simp [intOf]; omega
          · have e : kk = L.length := by omega
            subst e
            have cl : ¬ ((L.length : Int) < (L.length : Int)) := by omega
            have HR := hide (show BRow wr w1.heap.size k (dR I L (i + 1)) by rw [unhide Hd]; rw [List.take_length] at hR; exact hR)
            have Hown := hide hown
            have Hg := hide (gtrans (unhide HG6) hgr)
            clear hR hown hgr
            go_wp2
            go_roundw
            case rel => exact ⟨i + 1, by omega, by go_num, by rw [unhide HE]; exact unhide Hown, unhide HR, unhide Hg⟩
            case measure => simp [intOf]; omega
    · have e : i = k := by omega
      subst e
      have cl : ¬ ((i : Int) < (i : Int)) := by omega
      have Hown := hide hown
      have HS := hide ((unhide HS2).grown hgr (by have := (unhide HS2).size; omega) (fun k hk => by cases hk; omega))
      clear hown hR hgr
      go_wp2
      go_ret
      exact ⟨_, rfl, Joins.ownsRow_le (unhide Hown) (by omega), unhide HS⟩
end Go.Proofs.Ytpcajcgafmmlkaa
