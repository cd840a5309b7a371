/-
  Layers.
-/
import Derived.Test.YtbbilogkblmniaaLyC
import Derived.Test.YtbbilogkblmniaaClC
namespace Go.Proofs.Ytbbilogkblmniaa
open Go.RowKit

/-- rows of numbers in a slice -/
def LLs (V : World) (q : Option Addr) (L : List (List Nat)) : Prop := ∃ g, q = some ⟨g, 0, none⟩ ∧ g < V.heap.size ∧ ∀ k, k < L.length → ∃ gk ck, V.cell? ⟨g, k, none⟩ = some (.slice (some ⟨gk, 0, none⟩) (L.getD k []).length ck) ∧ Nr V gk (L.getD k [])
theorem LLs.keep {V V' : World} {q : Option Addr} {L : List (List Nat)} (h : LLs V q L) (hb : Below V.heap.size V V') : LLs V' q L := by
  obtain ⟨g, e, hg, hk⟩ := h
  exact ⟨g, e, Nat.lt_of_lt_of_le hg hb.size, fun k h1 => by
    obtain ⟨gk, ck, h2, h3⟩ := hk k h1
    exact ⟨gk, ck, keepC hb hg h2, h3.keep hb⟩⟩
/-- Layers, either side: the sheets -/
def LayersOk (F : Nat) (w h : Nat) (p : Option Addr) (n cap : Nat) (W : World) (L : List (List Nat)) : Prop := Calls Try.prog F #[tr w h p n cap] W fun e V => ∃ q cp len, e = .returned (.tuple #[.slice q len cp, .int .i64 0]) ∧ len = L.length ∧ LLs V q L ∧ Below W.heap.size W V

set_option maxHeartbeats 1000000 in
theorem layers_err (w h : Int) (p : Option Addr) (n cap : Nat) (W : World) (er : Int) (he : cE w h n = er) (h0 : er ≠ 0) : LiftErr 11 w h p n cap W er := by
  unfold LiftErr
  have HW := hide (fun V => by have := cwrong_any w h p n cap V; rw [he] at this; exact this)
  have B0 := hide (bal (o := .cells #[.int .i64 w, .int .i64 h, .slice p n cap] 24) (Below.refl W.heap.size W))
  have hr' : (er != 0) = true := by simp [h0]
  clear he h0
  go_enter Try.func11, Try.ntmps11
  go_wp2_with fail
  refine (unhide HW _).mono ?_
  rintro e w1 ⟨rfl, hb⟩
  have HB := hide (btrans (unhide B0) hb)
  clear hb
  go_wp2
  exact bodyPost_ret (v := .tuple #[.slice none 0 0, .int .i64 er]) (by simp [results, Try.results11, go_sem]) rfl ⟨rfl, unhide HB⟩

/-- the rows of the first x strands are there -/
def OvP (V : World) (ob N x : Nat) (f : Nat → Bool) (w h : Nat) : Prop := ob < V.heap.size ∧ (∀ s, s < N → V.frozen? ⟨ob, s, none⟩ = false ∧ ∃ u, V.cell? ⟨ob, s, none⟩ = some u) ∧ ∀ s, s < x → ∃ q c, V.cell? ⟨ob, s, none⟩ = some (.slice (some ⟨q, 0, none⟩) (ovL f w h s).length c) ∧ Nr V q (ovL f w h s) ∧ q ≠ ob
theorem OvP.keep {V V' : World} {ob N x : Nat} {f : Nat → Bool} {w h : Nat} (k : OvP V ob N x f w h) (hb : Below V.heap.size V V') : OvP V' ob N x f w h :=
  ⟨Nat.lt_of_lt_of_le k.1 hb.size, fun s hs => by
    obtain ⟨h1, u, h2⟩ := k.2.1 s hs
    exact ⟨keepF hb k.1 h1, u, keepC hb k.1 h2⟩, fun s hs => by
    obtain ⟨q, c, h1, h2, h3⟩ := k.2.2 s hs
    exact ⟨q, c, keepC hb k.1 h1, h2.keep hb, h3⟩⟩
theorem OvP.set {V : World} {ob N x : Nat} {f : Nat → Bool} {w h : Nat} (k : OvP V ob N x f w h) (hx : x < N) (q c : Nat) (hn : Nr V q (ovL f w h x)) (hq : q ≠ ob) : OvP (V.setCell ⟨ob, x, none⟩ (.slice (some ⟨q, 0, none⟩) (ovL f w h x).length c)) ob N (x + 1) f w h := by
  have hg := gset (World.grownBy.refl V (some ob)) x (.slice (some ⟨q, 0, none⟩) (ovL f w h x).length c)
  obtain ⟨_, u0, hu0⟩ := k.2.1 x hx
  refine ⟨by simpa using k.1, fun s hs => ?_, fun s hs => ?_⟩
  · obtain ⟨h1, u, h2⟩ := k.2.1 s hs
    refine ⟨by rw [World.frozen?_setCell]; exact h1, ?_⟩
    by_cases e : s = x
    · subst e; exact ⟨_, World.cell?_setCell_same' _ _ _ (by rw [h2]; rfl)⟩
    · exact ⟨u, by rw [World.cell?_setCell_other _ _ _ _ (by intro e'; cases e'; exact e rfl)]; exact h2⟩
  · by_cases e : s = x
    · subst e
      exact ⟨q, c, World.cell?_setCell_same' _ _ _ (by rw [hu0]; rfl), hn.grown hg (fun e' => hq (Option.some.inj e')), hq⟩
    · obtain ⟨q', c', h1, h2, h3⟩ := k.2.2 s (by omega)
      exact ⟨q', c', by rw [World.cell?_setCell_other _ _ _ _ (by intro e'; cases e'; exact e rfl)]; exact h1, h2.grown hg (fun e' => h3 (Option.some.inj e')), h3⟩
theorem OvP.all {V : World} {ob N : Nat} {f : Nat → Bool} {w h : Nat} (k : OvP V ob N N f w h) : Ovs V ob N f w h := ⟨k.1, fun s hs => by
  obtain ⟨q, c, h1, h2, _⟩ := k.2.2 s hs
  exact ⟨q, c, h1, h2⟩⟩
theorem OvP.made {V : World} {B ob N : Nat} {f : Nat → Bool} {w h : Nat} (k : V.ownsRow B 25 1 (.slice (some ⟨ob, 0, none⟩) N N) N (madeCells #[.slice none 0 0] N).toList) : OvP V ob N 0 f w h :=
  ⟨(k.lt ob rfl).2, fun s hs => ⟨k.frozenAt s, .slice none 0 0, by rw [k.cellAt s (by omega), toList_madeCells_one, List.getElem?_replicate, if_pos (by omega)]⟩, fun s hs => by omega⟩

set_option maxRecDepth 100000 in
set_option maxHeartbeats 8000000 in
theorem layers_ok {W : World} {w h : Nat} {p : Option Addr} {n cap : Nat} {f : Nat → Bool} (r : Rt W w h p n cap f) (h0 : 0 < n) : LayersOk 11 w h p n cap W (lyL f w h) := by
  unfold LayersOk
  have hw := r.1
  have hh := r.2.1
  obtain ⟨i5, hi5, hy0, hy1, hy2⟩ := info_parts info25
  have HW := hide (fun V => by have := cwrong_any w h p n cap V; rw [cE_ok r.1 r.2.1 r.2.2.1 h0] at this; exact this)
  have HT := hide (Tb.new r)
  have B0 := hide (bal (o := .cells #[.int .i64 w, .int .i64 h, .slice p n cap] 24) (Below.refl W.heap.size W))
  obtain ⟨N, hN⟩ : ∃ N : Nat, N = w + h := ⟨_, rfl⟩
  have e1 : (w : Int) + (h : Int) = (N : Int) := by omega
  have HN := hide hN
  have hN128 : N ≤ 128 := by omega
  have hN0 : 0 < N := by
    have := r.2.2.1
    rcases Nat.eq_zero_or_pos w with e | e
    · rw [e, Nat.zero_mul] at this; omega
    · omega
  have e2 : IntKind.i64.wrap (N : Int) = (N : Int) := by rw [IntKind.wrap_i64]; omega
  have hby : i5.bytes * N ≤ 281474976710656 := by rw [hy2]; omega
  have hml : N ≤ maxLen := by unfold maxLen; omega
  clear r h0 hN
  go_enter Try.func11, Try.ntmps11
  go_wp2_with fail
  refine (unhide HW _).mono ?_
  rintro e w1 ⟨rfl, hb⟩
  have HB := hide (btrans (unhide B0) hb)
  have HT1 := hide ((unhide HT).keep hb)
  have hz1 : W.heap.size < w1.heap.size := Nat.lt_of_lt_of_le (by simp) hb.size
  clear hb HT B0
  go_wp2_with fail
  have HX := hide (show ∀ V, Below w1.heap.size w1 V → Calls Try.prog 18 #[tr w h p n cap] V fun e V' => ∃ b1 b3 b4, e = .returned (.func (.func 31) #[] #[.pointer (some ⟨b3, 0, none⟩), .pointer (some ⟨b4, 0, none⟩)]) ∧ Cr V' b1 b3 b4 w h p n cap f ∧ Below V.heap.size V V' from fun V hV => crossings_any ((unhide HT1).2.keep hV))
  have Hld := hide (show ∀ V, Below w1.heap.size w1 V → (V.cell? ⟨W.heap.size, 0, none⟩ = some (.int .i64 w) ∧ V.cell? ⟨W.heap.size, 1, none⟩ = some (.int .i64 h) ∧ V.cell? ⟨W.heap.size, 2, none⟩ = some (.slice p n cap)) from fun V hV => ((unhide HT1).1.keep hV).2)
  clear HT1 HW
  have hb2 := True.intro
  go_region_held3 (fun V => Below w1.heap.size w1 V ∧ (V.cell? ⟨W.heap.size, 0, none⟩ = some (.int .i64 w) ∧ V.cell? ⟨W.heap.size, 1, none⟩ = some (.int .i64 h) ∧ V.cell? ⟨W.heap.size, 2, none⟩ = some (.slice p n cap)))
    (first
      | (exact ⟨Below.drew (Below.refl _ _), unhide Hld _ (Below.drew (Below.refl _ _))⟩)
      | (exact ⟨hb2, unhide Hld _ hb2⟩))
    (first
      | (go_at_call 18; refine (unhide HX _ (Below.drew (Below.refl _ _))).mono ?_; rintro e w10 ⟨b1, b3, b4, rfl, hcr, hb⟩; have hb2 := btrans (Below.drew (Below.refl _ _)) hb))
  have HC := hide hcr
  have Sf := hide (btrans (unhide HB) hb2)
  clear hcr hb hb2 Hld HX HB hz1
  go_wp2_with (refine wpList_make_full _ rfl _ _ 32 rfl w10.heap.size 25 i5 _ 1 Try.underlying32 hi5 hy0 hy1 .i64 .i64 (N : Int) (N : Int) N rfl rfl rfl rfl hby hml (Nat.le_refl _) ?_)
  intro wm hown hgrow
  have S0 := (Below.refl _ w10).grown hgrow (Nat.le_refl _) (fun k hk => by cases hk)
  have HP0 := hide (OvP.made (f := f) (w := w) (h := h) hown)
  have HS0 := hide S0
  have hz2 : w10.heap.size < wm.heap.size := (hown.lt w10.heap.size rfl).2
  clear S0 hown hgrow hi5 hy0 hy1 hy2 hby hml e1 e2
  go_wp2
  have HP1 := hide ((unhide HP0).keep (bal (o := .cells #[.slice (some ⟨w10.heap.size, 0, none⟩) N N] 32) (Below.refl wm.heap.size wm)))
  have HS1 := hide (bal (o := .cells #[.slice (some ⟨w10.heap.size, 0, none⟩) N N] 32) (unhide HS0))
  have hbx : (wm.alloc (.cells #[.slice (some ⟨w10.heap.size, 0, none⟩) N N] 32)).cell? ⟨wm.heap.size, 0, none⟩ = some (.slice (some ⟨w10.heap.size, 0, none⟩) N N) := by simp [go_sem]
  have hbz : wm.heap.size < (wm.alloc (.cells #[.slice (some ⟨w10.heap.size, 0, none⟩) N N] 32)).heap.size := by simp
  have Hbx := hide hbx
  have Hbz := hide hbz
  clear hbx hbz HP0 HS0
  generalize wm.alloc (.cells #[.slice (some ⟨w10.heap.size, 0, none⟩) N N] 32) = wa at *
  generalize wm.heap.size = bx at *
  obtain ⟨ob, hob⟩ : ∃ ob, ob = w10.heap.size := ⟨_, rfl⟩
  rw [← hob] at hz2 HP1 Hbx
  rw [← hob]
  have Hob := hide hob
  clear hob
  go_loopw [25] (fun i wr => ∃ x : Nat, x ≤ N ∧ i = .int .i64 x ∧ OvP wr ob N x f w h ∧ (bx < wr.heap.size ∧ wr.cell? ⟨bx, 0, none⟩ = some (.slice (some ⟨ob, 0, none⟩) N N)) ∧ Below w10.heap.size w10 wr) (fun i _ => N - (intOf i).toNat)
  case atStart => exact ⟨0, Nat.zero_le _, rfl, unhide HP1, ⟨unhide Hbz, unhide Hbx⟩, unhide HS1⟩
  case round =>
    clear HP1 Hbz Hbx HS1
    obtain ⟨x, hx, rfl, hP, ⟨hbz, hbx⟩, hb⟩ := hrel
    have HP := hide hP
    have Hb := hide hb
    clear hP hb
    by_cases hlt : x < N
    · have q1 : (x : Int) < (N : Int) := by omega
      have q2 : (0 : Int) ≤ (x : Int) := by omega
      have HO := hide (show ∀ V, Below wr.heap.size wr V → OverIs x N b3 b4 V (ovL f w h x) from fun V hV => over_any ((unhide HC).keep (btrans (unhide Hb) hV)) hw hh x N (unhide HN) hlt)
      go_wp2_with fail
      go_region_with (go_at_call 19; refine (unhide HO _ (Below.drew (Below.refl _ _))).mono ?_; rintro e w2 ⟨q, cp, len, rfl, hl, hn, hq, hb2⟩; have hbx2 := keepC (W := wr.drew) hb2 hbz hbx; obtain ⟨fz, u0, hu0⟩ := ((unhide HP).keep (btrans (Below.drew (Below.refl _ wr)) hb2)).2.1 x hlt)
      all_goals
        have hb3 := btrans (Below.drew (Below.refl _ wr)) hb2
        have hP2 := (unhide HP).keep hb3
        have HPn := hide (hP2.set hlt q cp hn (by have := (unhide HP).1; have h9 : wr.heap.size ≤ q := hq; omega))
        have Hbn := hide (bset (p := ⟨ob, x, none⟩) (u := .slice (some ⟨q, 0, none⟩) (ovL f w h x).length cp) (btrans (unhide Hb) hb3) (by rw [unhide Hob]; exact Nat.le_refl _))
        have Hbxn := hide (show bx < (w2.setCell ⟨ob, x, none⟩ (.slice (some ⟨q, 0, none⟩) (ovL f w h x).length cp)).heap.size ∧ (w2.setCell ⟨ob, x, none⟩ (.slice (some ⟨q, 0, none⟩) (ovL f w h x).length cp)).cell? ⟨bx, 0, none⟩ = some (.slice (some ⟨ob, 0, none⟩) N N) from
          ⟨by have := hb3.size; simp; omega, by rw [World.cell?_setCell_other _ _ _ _ (by intro e; cases e; omega)]; exact hbx2⟩)
        clear hb3 hP2 hl hn hq hb2 hbx2 fz hu0 HP Hb HO hbx hbz
        generalize w2.setCell ⟨ob, x, none⟩ (.slice (some ⟨q, 0, none⟩) (ovL f w h x).length cp) = w3 at *
        generalize (ovL f w h x).length = len at *
        go_wp2
        go_roundw
        case rel => exact ⟨x + 1, by omega, by go_num, unhide HPn, unhide Hbxn, unhide Hbn⟩
        case measure => simp [intOf]; omega
    · obtain rfl : N = x := by omega
      have cl : ¬ ((N : Int) < (N : Int)) := by omega
      have HOv := hide ((unhide HP).all)
      have HS := hide (sheets_any (cp := N) (unhide HOv) (unhide HN) hN128)
      have Hbz := hide hbz
      clear hbz
      go_wp2_with fail
      refine (unhide HS).mono ?_
      rintro e w5 ⟨E, q, c, len, rfl, hlen, hown, hsh, hb5⟩
      have hfs : 1 ≤ (fsL f w h).length := List.length_pos_of_mem (fs_of (f := f) (w := w) (h := h) (t := 0) (by rw [← unhide HN]; exact hN0)).1
      obtain ⟨g, c', hq⟩ := own_slice hown (by omega)
      obtain ⟨rfl, rfl⟩ : q = some ⟨g, 0, none⟩ ∧ c = c' := by simpa using hq
      have HCm := hide (cmp_layers (unhide Hbz) hbx (unhide HOv) (unhide HN) rfl hown hsh hb5)
      have hlen128 : len ≤ 128 := by have := fsL_len f w h; have := unhide HN; omega
      have hgW : wr.heap.size ≤ g := (hown.lt g rfl).1
      have Hg5 := hide (show g < w5.heap.size from (hown.lt g rfl).2)
      have HSW := hide (show SW E (fun s => s ∈ fsL f w h) w5 g len (fun k => (fsL f w h).getD k 0) w5 from ⟨⟨(hown.lt g rfl).2, fun k hk => ⟨by
          rw [hown.cellAt k (by omega)]
          simp [List.getD, List.getElem?_eq_getElem (show k < (fsL f w h).length by omega)], hown.frozenAt k, getD_mem (by omega)⟩⟩, World.grownBy.refl _ _⟩)
      have Hsort := hide (sortstable_any (cap := c) (unhide HCm) (unhide HSW) hlen128 (fun i j h1 h2 => fsL_up i j h1 (by omega)))
      have Hlen := hide hlen
      have Hown := hide hown
      have Hsh := hide hsh
      have Hb5 := hide hb5
      clear hq hown hsh hb5 hlen hfs HCm HSW HS hbx
      go_wp2_with fail
      refine (unhide Hsort).mono ?_
      rintro e w6 ⟨rfl, gf, hSW6, hBk⟩
      have Hly := hide (sorted_ly (unhide Hlen) hBk)
      have Hfin := hide (show LLs w6 (some ⟨g, 0, none⟩) (lyL f w h) from ⟨g, rfl, hSW6.1.1, fun k hk => by
        have hk2 : k < len := by have := lyF_len f w h; simp [lyL] at hk; have := unhide Hlen; omega
        obtain ⟨k1, _, k3⟩ := hSW6.1.2 k hk2
        have e : (lyL f w h).getD k [] = shL f w h (gf k) := by
          have hk3 : k < (lyF f w h).length := by simpa [lyL] using hk
          have e2 : (lyF f w h)[k] = gf k := by
            have := congrArg (fun l => l[k]?) (unhide Hly)
            simp [hk2, List.getElem?_eq_getElem hk3] at this
            exact this.symm
          simp [lyL, List.getD, List.getElem?_eq_getElem hk3, e2]
        obtain ⟨⟨g1, a1⟩, a2, a3⟩ := (unhide Hsh (gf k) k3).grown (unhide Hown) hSW6.2
        rw [e]
        refine ⟨g1, E.c (gf k), by rw [k1, El.v, a1, a2], ?_⟩
        rw [El.v, a1] at a3
        exact own_nr a3 a2⟩)
      have Hb6 := hide ((btrans (btrans (unhide Sf) (unhide Hb)) (unhide Hb5)).grown hSW6.2 (btrans (btrans (unhide Sf) (unhide Hb)) (unhide Hb5)).size (fun j e => by
        cases e
        have := (btrans (unhide Sf) (unhide Hb)).size
        omega))
      have Hlen2 := hide (show len = (lyL f w h).length by have := lyF_len f w h; have := unhide Hlen; simp [lyL]; omega)
      clear hSW6 hBk Hsort
      go_wp2
      exact bodyPost_ret (v := .tuple #[.slice (some ⟨g, 0, none⟩) len c, .int .i64 0]) (by simp [results, Try.results11, go_sem]) rfl ⟨_, c, len, rfl, unhide Hlen2, unhide Hfin, unhide Hb6⟩
end Go.Proofs.Ytbbilogkblmniaa
