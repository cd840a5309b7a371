/-
  What moves of package group answers: all moves by points of the torus that keep the pattern.
-/
import Derived.Test.YtagiekbijmdmdaaGH
namespace Go.Proofs.Ytagiekbijmdmdaa
open Go.RowKit

/-- a move by a point of the torus: its turn, its flip, its By -/
abbrev Mv := Nat × Bool × Nat × Nat
def mvC (m : Mv) : List Value := [.int .i64 m.1, .bool m.2.1, .int .i64 m.2.2.1, .int .i64 m.2.2.2]
def mvsV (l : List Mv) : List Value := l.flatMap mvC
theorem mvsV_len (l : List Mv) : (mvsV l).length = l.length * 4 := by
  induction l with
  | nil => rfl
  | cons m l ih => simp only [mvsV, List.flatMap_cons, List.length_append, List.length_cons] at *; rw [ih]; simp only [mvC, List.length_cons, List.length_nil]; omega
theorem mvsV_snoc (l : List Mv) (m : Mv) : mvsV (l ++ [m]) = mvsV l ++ mvC m := by simp [mvsV]
/-- the moves of one turn and flip, by the first i points -/
def rowM (K : Nat → Bool → Nat → Bool) (N t : Nat) (f : Bool) (i : Nat) : List Mv := ((List.range i).filter (K t f)).map fun j => (t, f, j % N, j / N)
def turnsM (K : Nat → Bool → Nat → Bool) (N : Nat) (f : Bool) (t : Nat) : List Mv := (List.range t).flatMap fun t => rowM K N t f (N * N)
def flipOf (a : Nat) : Bool := a == 1
def allM (K : Nat → Bool → Nat → Bool) (N G a : Nat) : List Mv := (List.range a).flatMap fun a => turnsM K N (flipOf a) G
theorem rowM_succ (K : Nat → Bool → Nat → Bool) (N t : Nat) (f : Bool) (i : Nat) : rowM K N t f (i + 1) = rowM K N t f i ++ (if K t f i = true then [(t, f, i % N, i / N)] else []) := by
  unfold rowM
  rw [List.range_succ, List.filter_append, List.map_append]
  by_cases h : K t f i = true <;> simp [h]
theorem turnsM_succ (K : Nat → Bool → Nat → Bool) (N : Nat) (f : Bool) (t : Nat) : turnsM K N f (t + 1) = turnsM K N f t ++ rowM K N t f (N * N) := by simp [turnsM, List.range_succ]
theorem allM_succ (K : Nat → Bool → Nat → Bool) (N G a : Nat) : allM K N G (a + 1) = allM K N G a ++ turnsM K N (flipOf a) G := by simp [allM, List.range_succ]
theorem rowM_len (K : Nat → Bool → Nat → Bool) (N t : Nat) (f : Bool) (i : Nat) : (rowM K N t f i).length ≤ i := by
  unfold rowM
  rw [List.length_map]
  have := List.length_filter_le (K t f) (List.range i)
  simpa using this
theorem turnsM_len (K : Nat → Bool → Nat → Bool) (N : Nat) (f : Bool) (t : Nat) : (turnsM K N f t).length ≤ t * (N * N) := by
  induction t with
  | zero => simp [turnsM]
  | succ t ih => rw [turnsM_succ, List.length_append, Nat.add_mul, Nat.one_mul]; have := rowM_len K N t f (N * N); omega
theorem allM_len (K : Nat → Bool → Nat → Bool) (N G a : Nat) : (allM K N G a).length ≤ a * (G * (N * N)) := by
  induction a with
  | zero => simp [allM]
  | succ a ih => rw [allM_succ, List.length_append, Nat.add_mul, Nat.one_mul]; have := turnsM_len K N (flipOf a) G; omega
theorem info45 : (Try.prog.info? 45).map (fun i => (i.zero, i.size, i.bytes)) = some (some (.agg #[.int .i64 0, .bool false, .int .i64 0, .int .i64 0]), 4, 32) := by kernel_rfl
theorem PRow.grown {W w1 : World} {b k : Nat} {fx fy : Nat → Int} {row : Option Nat} (h : PRow W b k fx fy) (hg : W.grownBy w1 row) (hne : some b ≠ row) : PRow w1 b k fx fy :=
  ⟨Nat.lt_of_lt_of_le h.1 hg.size, fun j hj => ⟨by rw [World.cell?_of_block (hg.block b h.1 hne)]; exact (h.2 j hj).1, by rw [World.cell?_of_block (hg.block b h.1 hne)]; exact (h.2 j hj).2⟩⟩
theorem PKind.grown {W w1 : World} {b : Nat} {row : Option Nat} (h : PKind W b) (hl : b < W.heap.size) (hg : W.grownBy w1 row) (hne : some b ≠ row) : PKind w1 b := by
  obtain ⟨c, fz, e⟩ := h
  exact ⟨c, fz, by rw [hg.block b hl hne]; exact e⟩
theorem PKind.ne {W : World} {b B n : Nat} {e : TypeId} {z : Nat} {v : Value} {xs : List Value} (h : PKind W b) (ho : W.ownsRow B e z v n xs) (he : e ≠ 33) : some b ≠ v.ownBlock := by
  intro q
  obtain ⟨c, fz, h1⟩ := h
  obtain ⟨c', fz', h2⟩ := Lib.ownsRow_kind ho b q.symm
  rw [h1] at h2
  cases h2
  exact he rfl
theorem fidx0 (w : World) : (Instr.index 86 (.agg #[.bool false, .bool true]) (.int .i64 0)).run Try.prog w = .ok (.bool false) w := by kernel_rfl
theorem fidx1 (w : World) : (Instr.index 86 (.agg #[.bool false, .bool true]) (.int .i64 1)).run Try.prog w = .ok (.bool true) w := by kernel_rfl
/-- which moves keep a pattern -/
def keepsK (w h N : Nat) (px : Nat → Int) (g : Int) (t : Nat) (f : Bool) (j : Nat) : Bool := kpV w h N px g t f (((j % N : Nat) : Int)) (((j / N : Nat) : Int))
def movesL (w h N : Nat) (px : Nat → Int) (g : Int) : List Mv := allM (keepsK w h N px g) N g.toNat 2

set_option maxHeartbeats 8000000 in
set_option maxRecDepth 100000 in
theorem moves_any (G : Nat) (N b k cap w' h' : Nat) (px : Nat → Int) (w : World) (hG : G = 4 ∨ G = 6) (hN : 1 ≤ N ∧ N ≤ 24) (hk : k = N * N) (hr : Ch.Row w b 0 k (tcx w' h' N px)) :
    Calls Try.prog 37 #[tv G N (some ⟨b, 0, none⟩) k cap] w fun e V => ∃ v, e = .returned v ∧ V.ownsRow (w.heap.size + 1) 45 4 v (movesL w' h' N px G).length (mvsV (movesL w' h' N px G)) ∧ Below w.heap.size w V := by
  have hk5 : k ≤ 576 := by rw [hk]; exact Nat.mul_le_mul hN.2 hN.2
  have hk1 : 1 ≤ k := by rw [hk]; exact Nat.mul_pos hN.1 hN.1
  obtain ⟨i0, hi, hz0, hz1, hz2⟩ := info_parts info45
  have hg : (G : Int) = 4 ∨ (G : Int) = 6 := by omega
  have hG6 : G ≤ 6 := by omega
  have HI := hide (fun (V : World) (t : Nat) (f : Bool) (ht : (t : Int) < (G : Int)) => images_any G N (some ⟨b, 0, none⟩) k cap t f V hg ht hN hk)
  have HP := hide (fun (V : World) (i : Nat) (hi : i < k) => point_any G N (some ⟨b, 0, none⟩) k cap i V (by omega) (by omega))
  have HK := hide (fun (V : World) (bi t : Nat) (f : Bool) (i : Nat) (hi : i < k) (hr : Ch.Row V b 0 k (tcx w' h' N px)) (hp : PRow V bi k (imX G t f N) (imY G t f N)) =>
    keeps_any G N b 0 k cap bi (tcx w' h' N px) (imX G t f N) (imY G t f N) ((i : Int) % N) ((i : Int) / N) V hN hk hr hp (fun j _ => im_range G t f N j hN)
      (by have := (cell_xy i N hN.1 (hk ▸ hi)).1; omega) (by have := (cell_xy i N hN.1 (hk ▸ hi)).2; omega))
  have HKv := hide (show ∀ t f (i : Nat), kpB (tcx w' h' N px) (imX G t f N) (imY G t f N) N ((i : Int) % N) ((i : Int) / N) k = keepsK w' h' N px G t f i from fun t f i => by unfold keepsK kpV; rw [hk, Int.natCast_emod, Int.natCast_ediv])
  have Hcell := hide (fun (i : Nat) (hi : i < k) => cell_xy i N hN.1 (hk ▸ hi))
  have Hlen1 := hide (fun t f i => rowM_len (keepsK w' h' N px G) N t f i)
  have Hlen2 := hide (show ∀ f t, t ≤ 6 → (turnsM (keepsK w' h' N px G) N f t).length ≤ 3456 from fun f t ht => by
    have := turnsM_len (keepsK w' h' N px G) N f t
    rw [← hk] at this
    exact Nat.le_trans this (Nat.mul_le_mul ht hk5))
  have Hlen3 := hide (show ∀ a, a ≤ 2 → (allM (keepsK w' h' N px G) N G a).length ≤ 6912 from fun a ha => by
    have := allM_len (keepsK w' h' N px G) N G a
    rw [← hk] at this
    exact Nat.le_trans this (Nat.mul_le_mul ha (Nat.mul_le_mul hG6 hk5)))
  have Hk := hide hk
  have HL := hide (show movesL w' h' N px G = allM (keepsK w' h' N px G) N G 2 from rfl)
  rw [unhide HL]
  generalize keepsK w' h' N px G = K at *
  generalize tcx w' h' N px = cx at *
  have T0 := OwnT.new w G N (some ⟨b, 0, none⟩) k cap 66
  have B0 := bal (o := .cells #[.int .i64 G, .int .i64 N, .slice (some ⟨b, 0, none⟩) k cap] 66) (Below.refl w.heap.size w)
  have R0 := hr.keep B0
  have HB0 := hide B0
  clear hr hk HL B0 hg
  have hw0 : (w.alloc (.cells #[.int .i64 G, .int .i64 N, .slice (some ⟨b, 0, none⟩) k cap] 66)).heap.size = w.heap.size + 1 := by simp
  go_enter Try.func37, Try.ntmps37
  go_wp2
  generalize w.alloc (.cells #[.int .i64 G, .int .i64 N, .slice (some ⟨b, 0, none⟩) k cap] 66) = w0 at *
  have Hw0 := hide hw0
  have HT0 := hide T0
  have HR0 := hide R0
  clear hw0 T0 R0
  go_loopw [11, 3] (fun a v wr => ∃ A : Nat, A ≤ 2 ∧ a = .int .i64 A ∧ wr.ownsRow (w.heap.size + 1) 45 4 v (allM K N G A).length (mvsV (allM K N G A)) ∧ Below w0.heap.size w0 wr) (fun a _ _ => 2 - (intOf a).toNat)
  case atStart => exact ⟨0, by omega, rfl, World.ownsRow_nil _ _ _ _, Below.refl _ _⟩
  case round =>
    obtain ⟨A, hA, rfl, hown, hbel⟩ := hrel
    by_cases hlt : A < 2
    · have hA01 : A = 0 ∨ A = 1 := by omega
      rcases hA01 with rfl | rfl
      · have T1 := ((unhide HT0).keep hbel).2
        have hfx := fidx0
        go_wp2
        clear T1 hfx
        obtain ⟨wa, rfl⟩ : ∃ wa : World, wa = wr := ⟨_, rfl⟩
        have Hown0 := hide hown
        clear hown
        go_loopw [16, 3] (fun a v wr2 => ∃ t : Nat, t ≤ G ∧ a = .int .i64 t ∧ wr2.ownsRow (w.heap.size + 1) 45 4 v (allM K N G 0 ++ turnsM K N false t).length (mvsV (allM K N G 0 ++ turnsM K N false t)) ∧ Below w0.heap.size w0 wr2) (fun a _ _ => G - (intOf a).toNat)
        case atStart => exact ⟨0, Nat.zero_le _, rfl, by simpa [turnsM] using unhide Hown0, hbel⟩
        case round =>
          clear Hown0 hbel
          obtain ⟨t, ht, rfl, hown, hbel⟩ := hrel
          by_cases hlt2 : t < G
          · have T1 := ((unhide HT0).keep hbel).2
            have HI1 := hide (unhide HI wr t false (by omega))
            go_wp2_with fail
            refine (unhide HI1).mono ?_
            rintro e w1 ⟨bi, rfl, hP, ⟨hPK, -⟩, hb⟩
            have hbel1 := btrans hbel hb
            have hown1 := own_keep hown hb
            have T2 := ((unhide HT0).keep hbel1).2
            have HP1 := hide hP
            have HPK1 := hide hPK
            clear hb hown hbel hP hPK T1 HI1
            go_wp2
            clear T2
            obtain ⟨wi, rfl⟩ : ∃ wi : World, wi = w1 := ⟨_, rfl⟩
            have Hown1 := hide hown1
            clear hown1
            go_loopw [26, 3] (fun a v wr3 => ∃ i : Nat, i ≤ k ∧ a = .int .i64 i ∧ wr3.ownsRow (w.heap.size + 1) 45 4 v (allM K N G 0 ++ turnsM K N false t ++ rowM K N t false i).length (mvsV (allM K N G 0 ++ turnsM K N false t ++ rowM K N t false i)) ∧ PRow wr3 bi k (imX G t false N) (imY G t false N) ∧ PKind wr3 bi ∧ Below w0.heap.size w0 wr3) (fun a _ _ => k - (intOf a).toNat)
            case atStart => exact ⟨0, Nat.zero_le _, rfl, by simpa [rowM] using unhide Hown1, unhide HP1, unhide HPK1, hbel1⟩
            case round =>
              clear Hown1 hbel1 HP1 HPK1
              obtain ⟨i, hik, rfl, hown, hP, hPK, hbel⟩ := hrel
              have HPK := hide hPK
              clear hPK
              by_cases hlt3 : i < k
              · have HP1 := hide (unhide HP wr i hlt3)
                have T1 := ((unhide HT0).keep hbel).2
                go_wp2_with fail
                refine (unhide HP1).mono ?_
                rintro e w2 ⟨rfl, hb⟩
                have hb' := bal (o := .cells #[.int .i64 ((i : Int) % N), .int .i64 ((i : Int) / N)] 33) hb
                have hbel2 := btrans hbel hb'
                have hown2 := own_keep hown hb'
                have hP2 := hP.keep hb'
                have HPK2 := hide ((unhide HPK).keep hP.1 hb')
                have Z := Own.new w2 ((i : Int) % N) ((i : Int) / N) 33
                have T2 := ((unhide HT0).keep hbel2).2
                have z := Z.2.1
                have HZ := hide Z
                have HK1 := hide (fun V (hb : Below w0.heap.size w0 V) (hp : PRow V bi k (imX G t false N) (imY G t false N)) => unhide HK V bi t false i hlt3 ((unhide HR0).keep hb) hp)
                rw [unhide HKv t false i] at HK1
                have hxy := unhide Hcell i hlt3
                obtain ⟨X, hX⟩ : ∃ X : Nat, (i : Int) % N = X := ⟨i % N, (Int.natCast_emod i N).symm⟩
                obtain ⟨Y, hY⟩ : ∃ Y : Nat, (i : Int) / N = Y := ⟨i / N, (Int.natCast_ediv i N).symm⟩
                have HX := hide (show i % N = X by rw [← Int.natCast_emod] at hX; omega)
                have HY := hide (show i / N = Y by rw [← Int.natCast_ediv] at hY; omega)
                have Hsucc := hide (rowM_succ K N t false i)
                rw [unhide HX, unhide HY] at Hsucc
                have hl1 := unhide Hlen1 t false i
                have hl2 := unhide Hlen2 false t (by omega)
                have hl3 := unhide Hlen3 0 (by omega)
                have hll : (allM K N G 0 ++ turnsM K N false t ++ rowM K N t false i).length ≤ 20000 := by rw [List.length_append, List.length_append]; omega
                clear hb hb' Z hown hbel hP T1 HP1 hl1 hl2 hl3 HKv
                generalize hLL : allM K N G 0 ++ turnsM K N false t ++ rowM K N t false i = L at *
                have HLL := hide hLL
                clear hLL
                rw [hX, hY] at z HZ HK1 hown2 hP2 HPK2 hbel2 T2
                rw [hX, hY]
                clear hX hY hxy
                go_wp2_with fail
                clear z T2
                generalize w2.alloc (.cells #[.int .i64 X, .int .i64 Y] 33) = w3 at *
                refine (unhide HK1 _ hbel2 hP2).mono ?_
                rintro e w4 ⟨rfl, hb⟩
                have hbel4 := btrans hbel2 hb
                have hown4 := own_keep hown2 hb
                have hP4 := hP2.keep hb
                have HPK4 := hide ((unhide HPK2).keep hP2.1 hb)
                have Z4 := (unhide HZ).keep hb
                clear hb hown2 hbel2 hP2 HZ HK1
                cases hKv : K t false i with
                | false =>
                  have Hs := hide (show allM K N G 0 ++ turnsM K N false t ++ rowM K N t false (i + 1) = L by rw [unhide Hsucc, hKv, ← unhide HLL]; simp)
                  clear hKv Z4 Hsucc
                  go_wp2
                  go_roundw
                  case rel => exact ⟨i + 1, by omega, by go_num, by rw [unhide Hs]; exact hown4, hP4, unhide HPK4, hbel4⟩
                  case measure => simp [intOf]; omega
                | true =>
                  have Hs := hide (show allM K N G 0 ++ turnsM K N false t ++ rowM K N t false (i + 1) = L ++ [(t, false, X, Y)] by rw [unhide Hsucc, hKv, ← unhide HLL]; simp)
                  clear hKv Hsucc
                  have z := Z4.2.1
                  have hs4 := hbel4.size
                  have hw01 := unhide Hw0
                  go_wp2_with (at_builtin; refine wpList_append_own _ rfl _ _ 28 rfl (w.heap.size + 1) 45 i0 (.agg #[.int .i64 0, .bool false, .int .i64 0, .int .i64 0]) 4 32 Try.underlying28 hi hz0 hz1 hz2 rfl (by decide) _ _ _ rfl (hown4.alloc _) ⟨w4.heap.size, 0, none⟩ 1 1 (mvC (t, false, X, Y)) rfl rfl ?c1 ?c2 ?c3 ?c4 ?c5 ?_)
                  case c1 =>
                    intro j u hj
                    match j, hj with
                    | 0, hj => simp [mvC] at hj; subst hj; simp [Addr.add, go_sem]
                    | 1, hj => simp [mvC] at hj; subst hj; simp [Addr.add, go_sem]
                    | 2, hj => simp [mvC] at hj; subst hj; simp [Addr.add, go_sem]
                    | 3, hj => simp [mvC] at hj; subst hj; simp [Addr.add, go_sem]
                    | j + 4, hj => simp [mvC] at hj
                  case c2 => intro u hu; simp [mvC] at hu; rcases hu with rfl | rfl | rfl | rfl <;> rfl
                  case c3 => unfold maxLen; omega
                  case c4 => omega
                  case c5 => simp; omega
                  intro v' w5 hown' hgrow _
                  have hne := (unhide HPK4).ne hown4 (by decide)
                  have S5 := (hbel4.alloc (by omega) _).grown hgrow (by simp; omega) (fun k hk => by rw [hw01]; exact (hown4.lt k hk).1)
                  have P5 := (hP4.keep (bal (o := .cells #[.int .i64 t, .bool false, .int .i64 X, .int .i64 Y] 45) (Below.refl _ _))).grown hgrow hne
                  have PK5 := ((unhide HPK4).keep hP4.1 (bal (o := .cells #[.int .i64 t, .bool false, .int .i64 X, .int .i64 Y] 45) (Below.refl _ _))).grown (by have := hP4.1; simp; omega) hgrow hne
                  have HPK5 := hide PK5
                  clear PK5 hgrow hown4 hP4 hbel4 Z4 z HPK4 hw01
                  go_wp2
                  go_roundw
                  case rel => exact ⟨i + 1, by omega, by go_num, by rw [unhide Hs, List.length_append, mvsV_snoc]; exact hown', P5, unhide HPK5, S5⟩
                  case measure => simp [intOf]; omega
              · have e : i = k := by omega
                subst e
                have cl : ¬ ((i : Int) < (i : Int)) := by omega
                have Hs := hide (show allM K N G 0 ++ turnsM K N false (t + 1) = allM K N G 0 ++ turnsM K N false t ++ rowM K N t false i by rw [turnsM_succ, ← unhide Hk, List.append_assoc])
                have Hb := hide hbel
                have Ho := hide hown
                clear hP hbel hown
                go_wp2
                refine ⟨⟨_, _, _, _, _, _, ⟨t + 1, by omega, by go_num, ?_, unhide Hb⟩, rfl, rfl, rfl, rfl, rfl, rfl⟩, by simp [intOf]; omega⟩
                rw [← List.length_append, unhide Hs]
                exact unhide Ho
          · have e : t = G := by omega
            subst e
            have cl : ¬ ((t : Int) < (t : Int)) := by omega
            have Hs := hide (show allM K N t 1 = allM K N t 0 ++ turnsM K N false t from allM_succ K N t 0)
            have Hb := hide hbel
            have Ho := hide hown
            clear hbel hown
            go_wp2
            go_roundw
            case rel => exact ⟨1, by omega, by go_num, by rw [unhide Hs]; exact unhide Ho, unhide Hb⟩
            case measure => simp [intOf]
      · have T1 := ((unhide HT0).keep hbel).2
        have hfx := fidx1
        go_wp2
        clear T1 hfx
        obtain ⟨wa, rfl⟩ : ∃ wa : World, wa = wr := ⟨_, rfl⟩
        have Hown0 := hide hown
        clear hown
        go_loopw [16, 3] (fun a v wr2 => ∃ t : Nat, t ≤ G ∧ a = .int .i64 t ∧ wr2.ownsRow (w.heap.size + 1) 45 4 v (allM K N G 1 ++ turnsM K N true t).length (mvsV (allM K N G 1 ++ turnsM K N true t)) ∧ Below w0.heap.size w0 wr2) (fun a _ _ => G - (intOf a).toNat)
        case atStart => exact ⟨0, Nat.zero_le _, rfl, by simpa [turnsM] using unhide Hown0, hbel⟩
        case round =>
          clear Hown0 hbel
          obtain ⟨t, ht, rfl, hown, hbel⟩ := hrel
          by_cases hlt2 : t < G
          · have T1 := ((unhide HT0).keep hbel).2
            have HI1 := hide (unhide HI wr t true (by omega))
            go_wp2_with fail
            refine (unhide HI1).mono ?_
            rintro e w1 ⟨bi, rfl, hP, ⟨hPK, -⟩, hb⟩
            have hbel1 := btrans hbel hb
            have hown1 := own_keep hown hb
            have T2 := ((unhide HT0).keep hbel1).2
            have HP1 := hide hP
            have HPK1 := hide hPK
            clear hb hown hbel hP hPK T1 HI1
            go_wp2
            clear T2
            obtain ⟨wi, rfl⟩ : ∃ wi : World, wi = w1 := ⟨_, rfl⟩
            have Hown1 := hide hown1
            clear hown1
            go_loopw [26, 3] (fun a v wr3 => ∃ i : Nat, i ≤ k ∧ a = .int .i64 i ∧ wr3.ownsRow (w.heap.size + 1) 45 4 v (allM K N G 1 ++ turnsM K N true t ++ rowM K N t true i).length (mvsV (allM K N G 1 ++ turnsM K N true t ++ rowM K N t true i)) ∧ PRow wr3 bi k (imX G t true N) (imY G t true N) ∧ PKind wr3 bi ∧ Below w0.heap.size w0 wr3) (fun a _ _ => k - (intOf a).toNat)
            case atStart => exact ⟨0, Nat.zero_le _, rfl, by simpa [rowM] using unhide Hown1, unhide HP1, unhide HPK1, hbel1⟩
            case round =>
              clear Hown1 hbel1 HP1 HPK1
              obtain ⟨i, hik, rfl, hown, hP, hPK, hbel⟩ := hrel
              have HPK := hide hPK
              clear hPK
              by_cases hlt3 : i < k
              · have HP1 := hide (unhide HP wr i hlt3)
                have T1 := ((unhide HT0).keep hbel).2
                go_wp2_with fail
                refine (unhide HP1).mono ?_
                rintro e w2 ⟨rfl, hb⟩
                have hb' := bal (o := .cells #[.int .i64 ((i : Int) % N), .int .i64 ((i : Int) / N)] 33) hb
                have hbel2 := btrans hbel hb'
                have hown2 := own_keep hown hb'
                have hP2 := hP.keep hb'
                have HPK2 := hide ((unhide HPK).keep hP.1 hb')
                have Z := Own.new w2 ((i : Int) % N) ((i : Int) / N) 33
                have T2 := ((unhide HT0).keep hbel2).2
                have z := Z.2.1
                have HZ := hide Z
                have HK1 := hide (fun V (hb : Below w0.heap.size w0 V) (hp : PRow V bi k (imX G t true N) (imY G t true N)) => unhide HK V bi t true i hlt3 ((unhide HR0).keep hb) hp)
                rw [unhide HKv t true i] at HK1
                have hxy := unhide Hcell i hlt3
                obtain ⟨X, hX⟩ : ∃ X : Nat, (i : Int) % N = X := ⟨i % N, (Int.natCast_emod i N).symm⟩
                obtain ⟨Y, hY⟩ : ∃ Y : Nat, (i : Int) / N = Y := ⟨i / N, (Int.natCast_ediv i N).symm⟩
                have HX := hide (show i % N = X by rw [← Int.natCast_emod] at hX; omega)
                have HY := hide (show i / N = Y by rw [← Int.natCast_ediv] at hY; omega)
                have Hsucc := hide (rowM_succ K N t true i)
                rw [unhide HX, unhide HY] at Hsucc
                have hl1 := unhide Hlen1 t true i
                have hl2 := unhide Hlen2 true t (by omega)
                have hl3 := unhide Hlen3 1 (by omega)
                have hll : (allM K N G 1 ++ turnsM K N true t ++ rowM K N t true i).length ≤ 20000 := by rw [List.length_append, List.length_append]; omega
                clear hb hb' Z hown hbel hP T1 HP1 hl1 hl2 hl3 HKv
                generalize hLL : allM K N G 1 ++ turnsM K N true t ++ rowM K N t true i = L at *
                have HLL := hide hLL
                clear hLL
                rw [hX, hY] at z HZ HK1 hown2 hP2 HPK2 hbel2 T2
                rw [hX, hY]
                clear hX hY hxy
                go_wp2_with fail
                clear z T2
                generalize w2.alloc (.cells #[.int .i64 X, .int .i64 Y] 33) = w3 at *
                refine (unhide HK1 _ hbel2 hP2).mono ?_
                rintro e w4 ⟨rfl, hb⟩
                have hbel4 := btrans hbel2 hb
                have hown4 := own_keep hown2 hb
                have hP4 := hP2.keep hb
                have HPK4 := hide ((unhide HPK2).keep hP2.1 hb)
                have Z4 := (unhide HZ).keep hb
                clear hb hown2 hbel2 hP2 HZ HK1
                cases hKv : K t true i with
                | false =>
                  have Hs := hide (show allM K N G 1 ++ turnsM K N true t ++ rowM K N t true (i + 1) = L by rw [unhide Hsucc, hKv, ← unhide HLL]; simp)
                  clear hKv Z4 Hsucc
                  go_wp2
                  go_roundw
                  case rel => exact ⟨i + 1, by omega, by go_num, by rw [unhide Hs]; exact hown4, hP4, unhide HPK4, hbel4⟩
                  case measure => simp [intOf]; omega
                | true =>
                  have Hs := hide (show allM K N G 1 ++ turnsM K N true t ++ rowM K N t true (i + 1) = L ++ [(t, true, X, Y)] by rw [unhide Hsucc, hKv, ← unhide HLL]; simp)
                  clear hKv Hsucc
                  have z := Z4.2.1
                  have hs4 := hbel4.size
                  have hw01 := unhide Hw0
                  go_wp2_with (at_builtin; refine wpList_append_own _ rfl _ _ 28 rfl (w.heap.size + 1) 45 i0 (.agg #[.int .i64 0, .bool false, .int .i64 0, .int .i64 0]) 4 32 Try.underlying28 hi hz0 hz1 hz2 rfl (by decide) _ _ _ rfl (hown4.alloc _) ⟨w4.heap.size, 0, none⟩ 1 1 (mvC (t, true, X, Y)) rfl rfl ?c1 ?c2 ?c3 ?c4 ?c5 ?_)
                  case c1 =>
                    intro j u hj
                    match j, hj with
                    | 0, hj => simp [mvC] at hj; subst hj; simp [Addr.add, go_sem]
                    | 1, hj => simp [mvC] at hj; subst hj; simp [Addr.add, go_sem]
                    | 2, hj => simp [mvC] at hj; subst hj; simp [Addr.add, go_sem]
                    | 3, hj => simp [mvC] at hj; subst hj; simp [Addr.add, go_sem]
                    | j + 4, hj => simp [mvC] at hj
                  case c2 => intro u hu; simp [mvC] at hu; rcases hu with rfl | rfl | rfl | rfl <;> rfl
                  case c3 => unfold maxLen; omega
                  case c4 => omega
                  case c5 => simp; omega
                  intro v' w5 hown' hgrow _
                  have hne := (unhide HPK4).ne hown4 (by decide)
                  have S5 := (hbel4.alloc (by omega) _).grown hgrow (by simp; omega) (fun k hk => by rw [hw01]; exact (hown4.lt k hk).1)
                  have P5 := (hP4.keep (bal (o := .cells #[.int .i64 t, .bool true, .int .i64 X, .int .i64 Y] 45) (Below.refl _ _))).grown hgrow hne
                  have PK5 := ((unhide HPK4).keep hP4.1 (bal (o := .cells #[.int .i64 t, .bool true, .int .i64 X, .int .i64 Y] 45) (Below.refl _ _))).grown (by have := hP4.1; simp; omega) hgrow hne
                  have HPK5 := hide PK5
                  clear PK5 hgrow hown4 hP4 hbel4 Z4 z HPK4 hw01
                  go_wp2
                  go_roundw
                  case rel => exact ⟨i + 1, by omega, by go_num, by rw [unhide Hs, List.length_append, mvsV_snoc]; exact hown', P5, unhide HPK5, S5⟩
                  case measure => simp [intOf]; omega
              · have e : i = k := by omega
                subst e
                have cl : ¬ ((i : Int) < (i : Int)) := by omega
                have Hs := hide (show allM K N G 1 ++ turnsM K N true (t + 1) = allM K N G 1 ++ turnsM K N true t ++ rowM K N t true i by rw [turnsM_succ, ← unhide Hk, List.append_assoc])
                have Hb := hide hbel
                have Ho := hide hown
                clear hP hbel hown
                go_wp2
                refine ⟨⟨_, _, _, _, _, _, ⟨t + 1, by omega, by go_num, ?_, unhide Hb⟩, rfl, rfl, rfl, rfl, rfl, rfl⟩, by simp [intOf]; omega⟩
                rw [← List.length_append, unhide Hs]
                exact unhide Ho
          · have e : t = G := by omega
            subst e
            have cl : ¬ ((t : Int) < (t : Int)) := by omega
            have Hs := hide (show allM K N t 2 = allM K N t 1 ++ turnsM K N true t from allM_succ K N t 1)
            have Hb := hide hbel
            have Ho := hide hown
            clear hbel hown
            go_wp2
            go_roundw
            case rel => exact ⟨2, by omega, by go_num, by rw [unhide Hs]; exact unhide Ho, unhide Hb⟩
            case measure => simp [intOf]
    · have e : A = 2 := by omega
      subst e
      have S6 := btrans (unhide HB0) hbel
      go_wp2
      go_ret
      exact ⟨_, rfl, hown, S6⟩
end Go.Proofs.Ytagiekbijmdmdaa
