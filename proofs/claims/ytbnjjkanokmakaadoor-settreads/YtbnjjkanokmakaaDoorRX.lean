/-
  The reader: take, wrong, count, stripe.
-/
import Derived.Test.YtbnjjkanokmakaaDoorSW
import Derived.Test.YtbnjjkanokmakaaDoorPM
import Derived.Test.YtbnjjkanokmakaaDoorSA
namespace Go.Proofs.YtbnjjkanokmakaaDoor
open Go.RowKit

theorem g15_0 {a0 a1 a2 a3 a4 a5 a6 a7 a8 a9 a10 a11 a12 a13 a14 : Oper} : (#[a0, a1, a2, a3, a4, a5, a6, a7, a8, a9, a10, a11, a12, a13, a14] : Array Oper)[0]? = some a0 := rfl
theorem g15_1 {a0 a1 a2 a3 a4 a5 a6 a7 a8 a9 a10 a11 a12 a13 a14 : Oper} : (#[a0, a1, a2, a3, a4, a5, a6, a7, a8, a9, a10, a11, a12, a13, a14] : Array Oper)[1]? = some a1 := rfl
theorem g15_2 {a0 a1 a2 a3 a4 a5 a6 a7 a8 a9 a10 a11 a12 a13 a14 : Oper} : (#[a0, a1, a2, a3, a4, a5, a6, a7, a8, a9, a10, a11, a12, a13, a14] : Array Oper)[2]? = some a2 := rfl
theorem g15_3 {a0 a1 a2 a3 a4 a5 a6 a7 a8 a9 a10 a11 a12 a13 a14 : Oper} : (#[a0, a1, a2, a3, a4, a5, a6, a7, a8, a9, a10, a11, a12, a13, a14] : Array Oper)[3]? = some a3 := rfl
theorem g15_4 {a0 a1 a2 a3 a4 a5 a6 a7 a8 a9 a10 a11 a12 a13 a14 : Oper} : (#[a0, a1, a2, a3, a4, a5, a6, a7, a8, a9, a10, a11, a12, a13, a14] : Array Oper)[4]? = some a4 := rfl
theorem g15_5 {a0 a1 a2 a3 a4 a5 a6 a7 a8 a9 a10 a11 a12 a13 a14 : Oper} : (#[a0, a1, a2, a3, a4, a5, a6, a7, a8, a9, a10, a11, a12, a13, a14] : Array Oper)[5]? = some a5 := rfl
theorem g15_6 {a0 a1 a2 a3 a4 a5 a6 a7 a8 a9 a10 a11 a12 a13 a14 : Oper} : (#[a0, a1, a2, a3, a4, a5, a6, a7, a8, a9, a10, a11, a12, a13, a14] : Array Oper)[6]? = some a6 := rfl
theorem g15_7 {a0 a1 a2 a3 a4 a5 a6 a7 a8 a9 a10 a11 a12 a13 a14 : Oper} : (#[a0, a1, a2, a3, a4, a5, a6, a7, a8, a9, a10, a11, a12, a13, a14] : Array Oper)[7]? = some a7 := rfl
theorem g15_8 {a0 a1 a2 a3 a4 a5 a6 a7 a8 a9 a10 a11 a12 a13 a14 : Oper} : (#[a0, a1, a2, a3, a4, a5, a6, a7, a8, a9, a10, a11, a12, a13, a14] : Array Oper)[8]? = some a8 := rfl
theorem g15_9 {a0 a1 a2 a3 a4 a5 a6 a7 a8 a9 a10 a11 a12 a13 a14 : Oper} : (#[a0, a1, a2, a3, a4, a5, a6, a7, a8, a9, a10, a11, a12, a13, a14] : Array Oper)[9]? = some a9 := rfl
theorem g15_10 {a0 a1 a2 a3 a4 a5 a6 a7 a8 a9 a10 a11 a12 a13 a14 : Oper} : (#[a0, a1, a2, a3, a4, a5, a6, a7, a8, a9, a10, a11, a12, a13, a14] : Array Oper)[10]? = some a10 := rfl
theorem g15_11 {a0 a1 a2 a3 a4 a5 a6 a7 a8 a9 a10 a11 a12 a13 a14 : Oper} : (#[a0, a1, a2, a3, a4, a5, a6, a7, a8, a9, a10, a11, a12, a13, a14] : Array Oper)[11]? = some a11 := rfl
theorem g15_12 {a0 a1 a2 a3 a4 a5 a6 a7 a8 a9 a10 a11 a12 a13 a14 : Oper} : (#[a0, a1, a2, a3, a4, a5, a6, a7, a8, a9, a10, a11, a12, a13, a14] : Array Oper)[12]? = some a12 := rfl
theorem g15_13 {a0 a1 a2 a3 a4 a5 a6 a7 a8 a9 a10 a11 a12 a13 a14 : Oper} : (#[a0, a1, a2, a3, a4, a5, a6, a7, a8, a9, a10, a11, a12, a13, a14] : Array Oper)[13]? = some a13 := rfl
theorem g15_14 {a0 a1 a2 a3 a4 a5 a6 a7 a8 a9 a10 a11 a12 a13 a14 : Oper} : (#[a0, a1, a2, a3, a4, a5, a6, a7, a8, a9, a10, a11, a12, a13, a14] : Array Oper)[14]? = some a14 := rfl

/-- the variable that is told where a number is too great -/
def Ev (W : World) : Prop := ∃ ev, W.cell? ⟨6, 0, none⟩ = some ev ∧ (ev = .nilIface ∨ ∃ te pe, ev = .iface te pe)
theorem Ev.keep {W V : World} (h : Ev W) (hb : Below W.heap.size W V) : Ev V := by
  obtain ⟨ev, h1, h2⟩ := h
  exact ⟨ev, keepC hb (World.block_lt_of_cell? W _ h1) h1, h2⟩
/-- what reading looks into -/
def RTabs (W : World) : Prop := Tabs W ∧ Ev W
theorem RTabs.keep {W V : World} (h : RTabs W) (hb : Below W.heap.size W V) : RTabs V := ⟨h.1.keep hb, h.2.keep hb⟩
/-- a reader -/
def Rdr (W0 : World) (rb : Nat) (s : ByteArray) (p : Nat) (W : World) : Prop := (W0.heap.size ≤ rb ∧ rb < W.heap.size) ∧ (W.cell? ⟨rb, 0, none⟩ = some (.string s) ∧ W.cell? ⟨rb, 1, none⟩ = some (.int .i64 (p : Int))) ∧ (∀ j, W.frozen? ⟨rb, j, none⟩ = false) ∧ Below W0.heap.size W0 W
theorem Rdr.keep {W0 W V : World} {rb p : Nat} {s : ByteArray} (h : Rdr W0 rb s p W) (hb : Below W.heap.size W V) : Rdr W0 rb s p V :=
  ⟨⟨h.1.1, Nat.lt_of_lt_of_le h.1.2 hb.size⟩, ⟨keepC hb h.1.2 h.2.1.1, keepC hb h.1.2 h.2.1.2⟩, fun j => keepF hb h.1.2 (h.2.2.1 j), h.2.2.2.trans (hb.mono h.2.2.2.size)⟩
theorem Rdr.put {W0 W : World} {rb p : Nat} {s : ByteArray} (h : Rdr W0 rb s p W) (q : Nat) : Rdr W0 rb s q (W.setCell ⟨rb, 1, none⟩ (.int .i64 (q : Int))) :=
  ⟨⟨h.1.1, by simpa using h.1.2⟩, ⟨cset h.2.1.1 (by decide), csame h.2.1.2⟩, fun j => fset (h.2.2.1 j), h.2.2.2.setCell (p := ⟨rb, 1, none⟩) h.1.1 _⟩
theorem Rdr.but {W0 W V : World} {rb p : Nat} {s : ByteArray} {S : Nat → Prop} (h : Rdr W0 rb s p W) (k : Kept S W V) (hS : ¬ S rb) (hb : Below W0.heap.size W0 V) : Rdr W0 rb s p V :=
  ⟨⟨h.1.1, Nat.lt_of_lt_of_le h.1.2 k.size⟩, ⟨k.cell h.1.2 hS h.2.1.1, k.cell h.1.2 hS h.2.1.2⟩, fun j => k.froz h.1.2 hS (h.2.2.1 j), hb⟩
/-- whether a byte was taken is told -/
def TkIs (W0 : World) (rb : Nat) (s : ByteArray) (p : Nat) (b : Bool) (W : World) (e : Ending) (V : World) : Prop := e = .returned (.bool b) ∧ Rdr W0 rb s (if b = true then p + 1 else p) V ∧ Kept (fun i => i = rb) W V
theorem by1_end {s : ByteArray} {p : Nat} {b : UInt8} (h : s.size ≤ p) : by1 s p b = false := by
  cases e : by1 s p b with
  | false => rfl
  | true => have := by1_lt e; omega
theorem by1_at {s : ByteArray} {p : Nat} (b : UInt8) (h : p < s.size) : by1 s p b = ((((s[p]'h).toNat : Nat) : Int) == ((b.toNat : Nat) : Int)) := by
  have h0 : (byt s)[p]? = some (s[p]'h) := by
    show s.data.toList[p]? = _
    rw [Array.getElem?_toList, Array.getElem?_eq_getElem (show p < s.data.size from h)]
    rfl
  unfold by1
  rw [h0]
  by_cases e : (s[p]'h) = b
  · rw [e]; simp
  · have : (s[p]'h).toNat ≠ b.toNat := fun hh => e (UInt8.toNat_inj.1 hh)
    have h1 : ((((s[p]'h).toNat : Nat) : Int) == ((b.toNat : Nat) : Int)) = false := by simp; omega
    rw [h1]
    simp [e]

set_option maxRecDepth 100000 in
set_option maxHeartbeats 1000000 in
theorem take_any (W0 W : World) (rb : Nat) (s : ByteArray) (p : Nat) (b : UInt8) (hs : s.size ≤ 65536) (hp : p ≤ s.size) (h : Rdr W0 rb s p W) : Calls Tryd.prog 38 #[.pointer (some ⟨rb, 0, none⟩), .int .u8 ((b.toNat : Nat) : Int)] W (TkIs W0 rb s p (by1 s p b) W) := by
  have HR := hide h
  obtain ⟨-, ⟨c0, c1⟩, -, -⟩ := h
  by_cases hlt : p < s.size
  · have hb := by1_at b hlt
    have d1 : ((p : Int) == (s.size : Int)) = false := by simp; omega
    have q1 : (p : Int) < (s.size : Int) := by omega
    have q0 : (0 : Int) ≤ (p : Int) := by omega
    have hx : (s[p]'hlt).toNat < 256 := UInt8.toNat_lt _
    have hy : b.toNat < 256 := UInt8.toNat_lt _
    cases hB : by1 s p b with
    | false =>
      rw [hb] at hB
      have hB2 : ((((s[p]'hlt).toNat : Nat) : Int) != ((b.toNat : Nat) : Int)) = true := by simp only [bne, hB, Bool.not_false]
      have Hp9 := hide (show p < s.size from hlt)
      clear hb hB
      go_enter Tryd.func38, Tryd.ntmps38
      go_wp2_with fail
      go_quiet (fail)
      go_wp2
      go_ret
      exact ⟨rfl, (unhide HR).keep (Joins.below_draws _ _ _), Kept.of (Joins.below_draws _ _ _)⟩
    | true =>
      rw [hb] at hB
      have hB2 : ((((s[p]'hlt).toNat : Nat) : Int) != ((b.toNat : Nat) : Int)) = false := by simp only [bne, hB, Bool.not_true]
      have e1 : (p : Int) + 1 = ((p + 1 : Nat) : Int) := by omega
      clear hb hB e1
      go_enter Tryd.func38, Tryd.ntmps38
      go_wp2_with fail
      go_quiet (fail)
      have HR2 := hide ((unhide HR).keep (Joins.below_draws _ W nq))
      have hk : Kept (fun i => i = rb) W (W.drewN nq) := Kept.of (Joins.below_draws _ _ _)
      generalize W.drewN nq = w2 at *
      clear c0 c1
      obtain ⟨-, ⟨c0, c1⟩, fz, -⟩ := unhide HR2
      have f1 := fz 1
      clear fz
      have p9 : (p : Int) ≤ 65536 := by omega
      obtain ⟨p1, hp1⟩ : ∃ p1, p1 = p + 1 := ⟨_, rfl⟩
      have e1 : (p : Int) + 1 = (p1 : Int) := by omega
      have HP := hide ((unhide HR2).put p1)
      have HK := hide (hk.set 1 (.int .i64 (p1 : Int)) (.inl rfl : (fun i => i = rb) rb ∨ W.heap.size ≤ rb))
      have Hp1 := hide hp1
      clear hp1 hk
      go_wp2
      go_ret
      exact ⟨rfl, by rw [if_pos rfl, ← unhide Hp1]; exact unhide HP, unhide HK⟩
  · have hE := by1_end (b := b) (show s.size ≤ p by omega)
    rw [hE]
    have d1 : ((p : Int) == (s.size : Int)) = true := by simp; omega
    obtain rfl : p = s.size := by omega
    clear hE d1 hlt
    go_enter Tryd.func38, Tryd.ntmps38
    go_wp2_with fail
    go_quiet (fail)
    go_wp2
    go_ret
    exact ⟨rfl, (unhide HR).keep (Joins.below_draws _ _ _), Kept.of (Joins.below_draws _ _ _)⟩

theorem rwrongAt_any (W0 W : World) (rb : Nat) (s : ByteArray) (p : Nat) (er : Int) (h : Rdr W0 rb s p W) : Calls Tryd.prog 40 #[.pointer (some ⟨rb, 0, none⟩), .int .i64 er] W fun e V => e = .returned (.agg #[.int .i64 er, .int .i64 (p : Int)]) ∧ Below W.heap.size W V := by
  have bn := bnew W (.cells #[.int .i64 0, .int .i64 0] 27)
  have HR := hide (h.keep bn)
  have HB := hide (B2.new W 0 0 27)
  have Hf := hide (show ∀ j, (W.alloc (.cells #[.int .i64 0, .int .i64 0] 27)).frozen? ⟨W.heap.size, j, none⟩ = false from fun j => by simp [go_sem])
  have Hb := hide bn
  clear bn h
  go_enter Tryd.func40, Tryd.ntmps40
  go_upto_region 1 with fail
  generalize W.alloc (.cells #[.int .i64 0, .int .i64 0] 27) = w1 at *
  generalize hbx : W.heap.size = bx at *
  have Hhb := hide hbx
  clear hbx
  obtain ⟨-, ⟨c0, c1⟩, -, -⟩ := unhide HR
  obtain ⟨hl, b0, b1⟩ := unhide HB
  have f0 := unhide Hf 0
  have f1 := unhide Hf 1
  obtain ⟨x9, hx9, r0, r1, hb9⟩ : ∃ x9, (w1.setCell ⟨bx, 0, none⟩ (.int .i64 er)).setCell ⟨bx, 1, none⟩ (.int .i64 (p : Int)) = x9 ∧ x9.cell? ⟨bx, 0, none⟩ = some (.int .i64 er) ∧ x9.cell? ⟨bx, 1, none⟩ = some (.int .i64 (p : Int)) ∧ Below bx W x9 :=
    ⟨_, rfl, cset (csame b0) (by decide), csame (cset b1 (by decide)), ((unhide Hb).setCell (p := ⟨bx, 0, none⟩) (Nat.le_refl _) _).setCell (p := ⟨bx, 1, none⟩) (Nat.le_refl _) _⟩
  have Hb9 := hide hb9
  clear hb9
  go_wp2
  exact bodyPost_ret (v := .agg #[.int .i64 er, .int .i64 (p : Int)]) (by simp [results, Tryd.results40, go_sem, r0, r1]) rfl ⟨rfl, by rw [unhide Hhb]; exact unhide Hb9⟩
end Go.Proofs.YtbnjjkanokmakaaDoor
