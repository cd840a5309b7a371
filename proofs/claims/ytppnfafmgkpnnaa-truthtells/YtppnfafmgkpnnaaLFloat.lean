/-
  TruthFloats: the law's walk.
-/
import Derived.Test.YtppnfafmgkpnnaaLFloatM
import Derived.Deep.CutRange
namespace Go.Proofs.Ytppnfafmgkpnnaa
open Go.RowKit Go.Shelf

theorem g17_0 {a0 a1 a2 a3 a4 a5 a6 a7 a8 a9 a10 a11 a12 a13 a14 a15 a16 : Oper} : (#[a0, a1, a2, a3, a4, a5, a6, a7, a8, a9, a10, a11, a12, a13, a14, a15, a16] : Array Oper)[0]? = some a0 := rfl
theorem g17_1 {a0 a1 a2 a3 a4 a5 a6 a7 a8 a9 a10 a11 a12 a13 a14 a15 a16 : Oper} : (#[a0, a1, a2, a3, a4, a5, a6, a7, a8, a9, a10, a11, a12, a13, a14, a15, a16] : Array Oper)[1]? = some a1 := rfl
theorem g17_2 {a0 a1 a2 a3 a4 a5 a6 a7 a8 a9 a10 a11 a12 a13 a14 a15 a16 : Oper} : (#[a0, a1, a2, a3, a4, a5, a6, a7, a8, a9, a10, a11, a12, a13, a14, a15, a16] : Array Oper)[2]? = some a2 := rfl
theorem g17_3 {a0 a1 a2 a3 a4 a5 a6 a7 a8 a9 a10 a11 a12 a13 a14 a15 a16 : Oper} : (#[a0, a1, a2, a3, a4, a5, a6, a7, a8, a9, a10, a11, a12, a13, a14, a15, a16] : Array Oper)[3]? = some a3 := rfl
theorem g17_4 {a0 a1 a2 a3 a4 a5 a6 a7 a8 a9 a10 a11 a12 a13 a14 a15 a16 : Oper} : (#[a0, a1, a2, a3, a4, a5, a6, a7, a8, a9, a10, a11, a12, a13, a14, a15, a16] : Array Oper)[4]? = some a4 := rfl
theorem g17_5 {a0 a1 a2 a3 a4 a5 a6 a7 a8 a9 a10 a11 a12 a13 a14 a15 a16 : Oper} : (#[a0, a1, a2, a3, a4, a5, a6, a7, a8, a9, a10, a11, a12, a13, a14, a15, a16] : Array Oper)[5]? = some a5 := rfl
theorem g17_6 {a0 a1 a2 a3 a4 a5 a6 a7 a8 a9 a10 a11 a12 a13 a14 a15 a16 : Oper} : (#[a0, a1, a2, a3, a4, a5, a6, a7, a8, a9, a10, a11, a12, a13, a14, a15, a16] : Array Oper)[6]? = some a6 := rfl
theorem g17_7 {a0 a1 a2 a3 a4 a5 a6 a7 a8 a9 a10 a11 a12 a13 a14 a15 a16 : Oper} : (#[a0, a1, a2, a3, a4, a5, a6, a7, a8, a9, a10, a11, a12, a13, a14, a15, a16] : Array Oper)[7]? = some a7 := rfl
theorem g17_8 {a0 a1 a2 a3 a4 a5 a6 a7 a8 a9 a10 a11 a12 a13 a14 a15 a16 : Oper} : (#[a0, a1, a2, a3, a4, a5, a6, a7, a8, a9, a10, a11, a12, a13, a14, a15, a16] : Array Oper)[8]? = some a8 := rfl
theorem g17_9 {a0 a1 a2 a3 a4 a5 a6 a7 a8 a9 a10 a11 a12 a13 a14 a15 a16 : Oper} : (#[a0, a1, a2, a3, a4, a5, a6, a7, a8, a9, a10, a11, a12, a13, a14, a15, a16] : Array Oper)[9]? = some a9 := rfl
theorem g17_10 {a0 a1 a2 a3 a4 a5 a6 a7 a8 a9 a10 a11 a12 a13 a14 a15 a16 : Oper} : (#[a0, a1, a2, a3, a4, a5, a6, a7, a8, a9, a10, a11, a12, a13, a14, a15, a16] : Array Oper)[10]? = some a10 := rfl
theorem g17_11 {a0 a1 a2 a3 a4 a5 a6 a7 a8 a9 a10 a11 a12 a13 a14 a15 a16 : Oper} : (#[a0, a1, a2, a3, a4, a5, a6, a7, a8, a9, a10, a11, a12, a13, a14, a15, a16] : Array Oper)[11]? = some a11 := rfl
theorem g17_12 {a0 a1 a2 a3 a4 a5 a6 a7 a8 a9 a10 a11 a12 a13 a14 a15 a16 : Oper} : (#[a0, a1, a2, a3, a4, a5, a6, a7, a8, a9, a10, a11, a12, a13, a14, a15, a16] : Array Oper)[12]? = some a12 := rfl
theorem g17_13 {a0 a1 a2 a3 a4 a5 a6 a7 a8 a9 a10 a11 a12 a13 a14 a15 a16 : Oper} : (#[a0, a1, a2, a3, a4, a5, a6, a7, a8, a9, a10, a11, a12, a13, a14, a15, a16] : Array Oper)[13]? = some a13 := rfl
theorem g17_14 {a0 a1 a2 a3 a4 a5 a6 a7 a8 a9 a10 a11 a12 a13 a14 a15 a16 : Oper} : (#[a0, a1, a2, a3, a4, a5, a6, a7, a8, a9, a10, a11, a12, a13, a14, a15, a16] : Array Oper)[14]? = some a14 := rfl
theorem g17_15 {a0 a1 a2 a3 a4 a5 a6 a7 a8 a9 a10 a11 a12 a13 a14 a15 a16 : Oper} : (#[a0, a1, a2, a3, a4, a5, a6, a7, a8, a9, a10, a11, a12, a13, a14, a15, a16] : Array Oper)[15]? = some a15 := rfl
theorem g17_16 {a0 a1 a2 a3 a4 a5 a6 a7 a8 a9 a10 a11 a12 a13 a14 a15 a16 : Oper} : (#[a0, a1, a2, a3, a4, a5, a6, a7, a8, a9, a10, a11, a12, a13, a14, a15, a16] : Array Oper)[16]? = some a16 := rfl
theorem g21_0 {a0 a1 a2 a3 a4 a5 a6 a7 a8 a9 a10 a11 a12 a13 a14 a15 a16 a17 a18 a19 a20 : Oper} : (#[a0, a1, a2, a3, a4, a5, a6, a7, a8, a9, a10, a11, a12, a13, a14, a15, a16, a17, a18, a19, a20] : Array Oper)[0]? = some a0 := rfl
theorem g21_1 {a0 a1 a2 a3 a4 a5 a6 a7 a8 a9 a10 a11 a12 a13 a14 a15 a16 a17 a18 a19 a20 : Oper} : (#[a0, a1, a2, a3, a4, a5, a6, a7, a8, a9, a10, a11, a12, a13, a14, a15, a16, a17, a18, a19, a20] : Array Oper)[1]? = some a1 := rfl
theorem g21_2 {a0 a1 a2 a3 a4 a5 a6 a7 a8 a9 a10 a11 a12 a13 a14 a15 a16 a17 a18 a19 a20 : Oper} : (#[a0, a1, a2, a3, a4, a5, a6, a7, a8, a9, a10, a11, a12, a13, a14, a15, a16, a17, a18, a19, a20] : Array Oper)[2]? = some a2 := rfl
theorem g21_3 {a0 a1 a2 a3 a4 a5 a6 a7 a8 a9 a10 a11 a12 a13 a14 a15 a16 a17 a18 a19 a20 : Oper} : (#[a0, a1, a2, a3, a4, a5, a6, a7, a8, a9, a10, a11, a12, a13, a14, a15, a16, a17, a18, a19, a20] : Array Oper)[3]? = some a3 := rfl
theorem g21_4 {a0 a1 a2 a3 a4 a5 a6 a7 a8 a9 a10 a11 a12 a13 a14 a15 a16 a17 a18 a19 a20 : Oper} : (#[a0, a1, a2, a3, a4, a5, a6, a7, a8, a9, a10, a11, a12, a13, a14, a15, a16, a17, a18, a19, a20] : Array Oper)[4]? = some a4 := rfl
theorem g21_5 {a0 a1 a2 a3 a4 a5 a6 a7 a8 a9 a10 a11 a12 a13 a14 a15 a16 a17 a18 a19 a20 : Oper} : (#[a0, a1, a2, a3, a4, a5, a6, a7, a8, a9, a10, a11, a12, a13, a14, a15, a16, a17, a18, a19, a20] : Array Oper)[5]? = some a5 := rfl
theorem g21_6 {a0 a1 a2 a3 a4 a5 a6 a7 a8 a9 a10 a11 a12 a13 a14 a15 a16 a17 a18 a19 a20 : Oper} : (#[a0, a1, a2, a3, a4, a5, a6, a7, a8, a9, a10, a11, a12, a13, a14, a15, a16, a17, a18, a19, a20] : Array Oper)[6]? = some a6 := rfl
theorem g21_7 {a0 a1 a2 a3 a4 a5 a6 a7 a8 a9 a10 a11 a12 a13 a14 a15 a16 a17 a18 a19 a20 : Oper} : (#[a0, a1, a2, a3, a4, a5, a6, a7, a8, a9, a10, a11, a12, a13, a14, a15, a16, a17, a18, a19, a20] : Array Oper)[7]? = some a7 := rfl
theorem g21_8 {a0 a1 a2 a3 a4 a5 a6 a7 a8 a9 a10 a11 a12 a13 a14 a15 a16 a17 a18 a19 a20 : Oper} : (#[a0, a1, a2, a3, a4, a5, a6, a7, a8, a9, a10, a11, a12, a13, a14, a15, a16, a17, a18, a19, a20] : Array Oper)[8]? = some a8 := rfl
theorem g21_9 {a0 a1 a2 a3 a4 a5 a6 a7 a8 a9 a10 a11 a12 a13 a14 a15 a16 a17 a18 a19 a20 : Oper} : (#[a0, a1, a2, a3, a4, a5, a6, a7, a8, a9, a10, a11, a12, a13, a14, a15, a16, a17, a18, a19, a20] : Array Oper)[9]? = some a9 := rfl
theorem g21_10 {a0 a1 a2 a3 a4 a5 a6 a7 a8 a9 a10 a11 a12 a13 a14 a15 a16 a17 a18 a19 a20 : Oper} : (#[a0, a1, a2, a3, a4, a5, a6, a7, a8, a9, a10, a11, a12, a13, a14, a15, a16, a17, a18, a19, a20] : Array Oper)[10]? = some a10 := rfl
theorem g21_11 {a0 a1 a2 a3 a4 a5 a6 a7 a8 a9 a10 a11 a12 a13 a14 a15 a16 a17 a18 a19 a20 : Oper} : (#[a0, a1, a2, a3, a4, a5, a6, a7, a8, a9, a10, a11, a12, a13, a14, a15, a16, a17, a18, a19, a20] : Array Oper)[11]? = some a11 := rfl
theorem g21_12 {a0 a1 a2 a3 a4 a5 a6 a7 a8 a9 a10 a11 a12 a13 a14 a15 a16 a17 a18 a19 a20 : Oper} : (#[a0, a1, a2, a3, a4, a5, a6, a7, a8, a9, a10, a11, a12, a13, a14, a15, a16, a17, a18, a19, a20] : Array Oper)[12]? = some a12 := rfl
theorem g21_13 {a0 a1 a2 a3 a4 a5 a6 a7 a8 a9 a10 a11 a12 a13 a14 a15 a16 a17 a18 a19 a20 : Oper} : (#[a0, a1, a2, a3, a4, a5, a6, a7, a8, a9, a10, a11, a12, a13, a14, a15, a16, a17, a18, a19, a20] : Array Oper)[13]? = some a13 := rfl
theorem g21_14 {a0 a1 a2 a3 a4 a5 a6 a7 a8 a9 a10 a11 a12 a13 a14 a15 a16 a17 a18 a19 a20 : Oper} : (#[a0, a1, a2, a3, a4, a5, a6, a7, a8, a9, a10, a11, a12, a13, a14, a15, a16, a17, a18, a19, a20] : Array Oper)[14]? = some a14 := rfl
theorem g21_15 {a0 a1 a2 a3 a4 a5 a6 a7 a8 a9 a10 a11 a12 a13 a14 a15 a16 a17 a18 a19 a20 : Oper} : (#[a0, a1, a2, a3, a4, a5, a6, a7, a8, a9, a10, a11, a12, a13, a14, a15, a16, a17, a18, a19, a20] : Array Oper)[15]? = some a15 := rfl
theorem g21_16 {a0 a1 a2 a3 a4 a5 a6 a7 a8 a9 a10 a11 a12 a13 a14 a15 a16 a17 a18 a19 a20 : Oper} : (#[a0, a1, a2, a3, a4, a5, a6, a7, a8, a9, a10, a11, a12, a13, a14, a15, a16, a17, a18, a19, a20] : Array Oper)[16]? = some a16 := rfl
theorem g21_17 {a0 a1 a2 a3 a4 a5 a6 a7 a8 a9 a10 a11 a12 a13 a14 a15 a16 a17 a18 a19 a20 : Oper} : (#[a0, a1, a2, a3, a4, a5, a6, a7, a8, a9, a10, a11, a12, a13, a14, a15, a16, a17, a18, a19, a20] : Array Oper)[17]? = some a17 := rfl
theorem g21_18 {a0 a1 a2 a3 a4 a5 a6 a7 a8 a9 a10 a11 a12 a13 a14 a15 a16 a17 a18 a19 a20 : Oper} : (#[a0, a1, a2, a3, a4, a5, a6, a7, a8, a9, a10, a11, a12, a13, a14, a15, a16, a17, a18, a19, a20] : Array Oper)[18]? = some a18 := rfl
theorem g21_19 {a0 a1 a2 a3 a4 a5 a6 a7 a8 a9 a10 a11 a12 a13 a14 a15 a16 a17 a18 a19 a20 : Oper} : (#[a0, a1, a2, a3, a4, a5, a6, a7, a8, a9, a10, a11, a12, a13, a14, a15, a16, a17, a18, a19, a20] : Array Oper)[19]? = some a19 := rfl
theorem g21_20 {a0 a1 a2 a3 a4 a5 a6 a7 a8 a9 a10 a11 a12 a13 a14 a15 a16 a17 a18 a19 a20 : Oper} : (#[a0, a1, a2, a3, a4, a5, a6, a7, a8, a9, a10, a11, a12, a13, a14, a15, a16, a17, a18, a19, a20] : Array Oper)[20]? = some a20 := rfl

/-- truths that are being made, in a box: the bits may be written -/
def OwnW (W : World) (b : Nat) (w h : Int) (p : Option Addr) (n cap : Nat) : Prop := OwnM W b w h p n cap ∧ W.frozen? ⟨b, 2, none⟩ = false
theorem OwnW.grown {a c : World} {row : Option Nat} {b : Nat} {w h : Int} {p : Option Addr} {n cap : Nat} (k : OwnW a b w h p n cap) (hg : a.grownBy c row) (hne : some b ≠ row) : OwnW c b w h p n cap := ⟨k.1.grown hg hne, gfroz hg k.1.1 hne k.2⟩
theorem OwnW.keep {W w1 : World} {b : Nat} {w h : Int} {p : Option Addr} {n cap : Nat} (k : OwnW W b w h p n cap) (hb : Below W.heap.size W w1) : OwnW w1 b w h p n cap := k.grown (gbelow none hb) (by simp)
theorem OwnW.set2 {W : World} {b : Nat} {w h : Int} {p : Option Addr} {n cap : Nat} (k : OwnW W b w h p n cap) (p' : Option Addr) (n' cap' : Nat) : OwnW (W.setCell ⟨b, 2, none⟩ (.slice p' n' cap')) b w h p' n' cap' := by
  obtain ⟨⟨h0, h1, h2, h3⟩, h4⟩ := k
  refine ⟨⟨by simpa using h0, ?_, ?_, ?_⟩, by rw [World.frozen?_setCell]; exact h4⟩
  · simp [go_sem, h1]
  · simp [go_sem, h2]
  · exact World.cell?_setCell_same' _ _ _ (by rw [h3]; rfl)
theorem OwnW.new (W : World) (w h : Int) : OwnW (W.alloc (.cells #[.int .i64 w, .int .i64 h, .slice none 0 0] 24)) W.heap.size w h none 0 0 := ⟨OwnM.new W w h none 0 0 24, by simp [go_sem]⟩
theorem own_form {B : Nat} {e : TypeId} {n z : Nat} {xs : List Value} {v : Value} {w : World} (h : w.ownsRow B e z v n xs) : ∃ q cap, v = .slice q n cap := by
  rcases h.2 with ⟨hv, h0⟩ | ⟨g, cap, cur, hv, _⟩
  · exact ⟨none, 0, by rw [hv, h0]⟩
  · exact ⟨_, _, hv⟩
def bitsV (f : Nat → Bool) (m : Nat) : List Value := (List.range m).map fun j => Value.bool (f j)
theorem bitsV_succ (f : Nat → Bool) (m : Nat) : bitsV f (m + 1) = bitsV f m ++ [.bool (f m)] := by simp [bitsV, List.range_succ]
theorem own_bs {W : World} {B m n cap : Nat} {q : Option Addr} {f : Nat → Bool} (h : W.ownsRow B 4 1 (.slice q n cap) m (bitsV f m)) (hn : n = m) : Bs W q m cap f := by
  subst hn
  rcases h.2 with ⟨hv, h0⟩ | ⟨g, c, cur, hv, _, _, hc, _⟩
  · cases hv; exact ⟨Nat.zero_le _, .inl rfl⟩
  · cases hv
    refine ⟨hc, .inr ⟨g, 0, rfl, (h.lt g rfl).2, fun k hk => ?_⟩⟩
    rw [Nat.zero_add, h.cellAt k (by omega)]
    simp [bitsV, hk]
theorem own_off {W : World} {B n cap m j : Nat} {q : Option Addr} {xs : List Value} (h : W.ownsRow B 4 1 (.slice q n cap) m xs) (hj : j < B) : Off q n j := by
  rcases h.2 with ⟨hv, h0⟩ | ⟨g, c, cur, hv, hg, _⟩
  · cases hv; exact .inl rfl
  · cases hv
    exact .inr fun a e => by cases e; dsimp only; omega
theorem Kept.drew {S : Nat → Prop} {w0 W : World} (h : Kept S w0 W) : Kept S w0 W.drew := h.below (Below.drew (Below.refl _ _))
theorem Kept.alloc {S : Nat → Prop} {w0 W : World} (h : Kept S w0 W) (o : Obj) : Kept S w0 (W.alloc o) := h.below (bal (Below.refl _ _))
theorem Kept.set {S : Nat → Prop} {w0 W : World} (h : Kept S w0 W) (b o : Nat) (v : Value) (hS : S b) : Kept S w0 (W.setCell ⟨b, o, none⟩ v) := h.grown (gset (World.grownBy.refl _ _) o v) (fun r e => by cases e; exact .inr hS)
theorem Kept.trans {S T U : Nat → Prop} {w0 W V : World} (h : Kept S w0 W) (k : Kept T W V) (hS : ∀ j, S j → U j) (hT : ∀ j, T j → U j) : Kept U w0 V :=
  ⟨k.1.trans h.1, k.2.1.trans h.2.1, k.2.2.1.trans h.2.2.1, Nat.le_trans h.2.2.2.1 k.2.2.2.1, fun j hj hU => (k.2.2.2.2 j (Nat.lt_of_lt_of_le hj h.2.2.2.1) (fun q => hU (hT j q))).trans (h.2.2.2.2 j hj (fun q => hU (hS j q)))⟩

theorem bs_cell {W : World} {b o n cap k : Nat} {f : Nat → Bool} (h : Bs W (some ⟨b, o, none⟩) n cap f) (hk : k < n) : W.cell? ⟨b, o + k, none⟩ = some (.bool (f k)) := by
  rcases h.2 with h0 | ⟨b', o', e, _, hc⟩
  · omega
  · cases e; exact hc k hk
def FltIs (w h : Int) (p : Option Addr) (n cap : Nat) (i : Int) (W : World) : Prop := Calls Try.prog 5 #[tr w h p n cap, .int .i64 i] W fun e w' => e = .returned (.bool true) ∧ Below W.heap.size W w'

set_option maxRecDepth 100000 in
set_option maxHeartbeats 1000000 in
theorem flt_err (w h : Int) (p : Option Addr) (n cap : Nat) (i : Int) (W : World) (er : Int) (hp : 1 ≤ er) (HF : ∀ V, Below W.heap.size W V → FloatsIs 16 w h p n cap V 0 0 er) : FltIs w h p n cap i W := by
  have HF' := hide HF
  have hp' : (er != 0) = true := by simp; omega
  have B0 := hide (bal (o := .cells #[.int .i64 w, .int .i64 h, .slice p n cap] 24) (Below.refl W.heap.size W))
  have M0 := hide (OwnM.new W w h p n cap 24)
  clear HF
  unfold FltIs
  go_enter Try.func5, Try.ntmps5
  go_wp2_with fail
  generalize W.alloc (.cells #[.int .i64 w, .int .i64 h, .slice p n cap] 24) = w0 at *
  refine (alive_any w0).mono ?_
  rintro e w1 ⟨rfl, hb⟩
  have S1 := hide (btrans (unhide B0) hb)
  have m1 := ((unhide M0).keep hb).2
  clear hb
  go_wp2_with fail
  refine (unhide HF' _ (unhide S1)).mono ?_
  rintro e w2 ⟨rfl, hb⟩
  have S2 := hide (btrans (unhide S1) hb)
  clear hb
  go_wp2
  go_ret
  exact ⟨rfl, unhide S2⟩

set_option maxHeartbeats 8000000 in
set_option maxRecDepth 100000 in
theorem flt_ok (w h : Nat) (b o n cap : Nat) (f : Nat → Bool) (i : Int) (A : Nat) (W : World) (hw1 : 0 < w) (hh1 : 0 < h) (r0 : Rt W w h (some ⟨b, o, none⟩) n cap f) (hA : A < w) (ia : Int) (hia : ia = if i < 0 then 0 else i) (hi0 : ia.tmod w = A) : FltIs w h (some ⟨b, o, none⟩) n cap i W := by
  have hw := r0.1
  have hh := r0.2.1
  have hn := r0.2.2.1
  have Hn := hide hn
  have hn4 : n ≤ 4096 := by rw [hn]; exact Nat.mul_le_mul hw hh
  have hn0 : 0 < n := by rw [hn]; exact Nat.mul_pos hw1 hh1
  obtain ⟨along, hal⟩ : ∃ al, al = lgM f false w h := ⟨_, rfl⟩
  obtain ⟨down, hdo⟩ : ∃ al, al = lgM (tuF f w h) true h w := ⟨_, rfl⟩
  have HF1 := hide (show ∀ V, Rt V w h (some ⟨b, o, none⟩) n cap f → FloatsIs 16 w h (some ⟨b, o, none⟩) n cap V (down : Nat) (along : Nat) 0 from fun V hV => by rw [hal, hdo]; exact floats_ok w h _ n cap f V hV hn0)
  have HF2 := hide (show ∀ V q cp, Rt V h w q n cp (otF f w h) → FloatsIs 16 h w q n cp V (along : Nat) (down : Nat) 0 from fun V q cp hV => by
    have := floats_ok h w q n cp _ V hV hn0
    rw [other_down f w h hw1, other_along f w h hh1, ← hal, ← hdo] at this
    exact this)
  have HF3 := hide (show ∀ V q cp, Rt V w h q n cp (mvF f w A) → FloatsIs 16 w h q n cp V (down : Nat) (along : Nat) 0 from fun V q cp hV => by
    have := floats_ok w h q n cp _ V hV hn0
    rw [moved_down f w h A hw1 hh1, moved_along f w h A hw1, ← hal, ← hdo] at this
    exact this)
  have Htl := hide (show ∀ y k, y < h → k ≤ w → tl0 (soF (fun x => f (y * w + x)) false) k ≤ along from fun y k hy hk => by rw [hal]; exact tl0_along f w h y k hw1 hw hy hk)
  have hal2 : along ≤ 128 := by rw [hal]; exact lgM_le _ _ _ _ hw
  have hdo2 : down ≤ 128 := by rw [hdo]; exact lgM_le _ _ _ _ hh
  have B0 := hide (bal (o := .cells #[.int .i64 w, .int .i64 h, .slice (some ⟨b, o, none⟩) n cap] 24) (Below.refl W.heap.size W))
  have T0 := hide (Tb.new r0)
  obtain ⟨i0, hi, hz0, hz1, hz2⟩ := info_parts info4
  have hw0 : (w : Int) ≠ 0 := by omega
  have Hi0 := hide hi0
  have Hoff := hide (fun q (hq : W.heap.size ≤ q) => r0.2.2.2.off hq)
  clear hal hdo hn hi0 r0
  unfold FltIs
  go_enter Try.func5, Try.ntmps5
  go_wp2_with fail
  generalize W.alloc (.cells #[.int .i64 w, .int .i64 h, .slice (some ⟨b, o, none⟩) n cap] 24) = w0 at *
  refine (alive_any w0).mono ?_
  rintro e w1 ⟨rfl, hb⟩
  have S1 := hide (btrans (unhide B0) hb)
  have T1 := hide ((unhide T0).keep hb)
  have m1 := (unhide T1).1.2
  clear hb B0 T0
  go_wp2_with fail
  clear m1
  refine (unhide HF1 _ (unhide T1).2).mono ?_
  rintro e w2 ⟨rfl, hb⟩
  have hb4 := bal (o := .cells #[.int .i64 w, .int .i64 h, .slice none 0 0] 24) (bal (o := .cells #[.int .i64 h, .int .i64 w, .slice none 0 0] 24) hb)
  have S4 := hide (btrans (unhide S1) hb4)
  have T4 := hide ((unhide T1).keep hb4)
  have O4 := hide ((OwnW.new w2 h w).keep (bal (o := .cells #[.int .i64 w, .int .i64 h, .slice none 0 0] 24) (Below.refl _ _)))
  have V4 := OwnW.new (w2.alloc (.cells #[.int .i64 h, .int .i64 w, .slice none 0 0] 24)) w h
  rw [World.size_alloc] at V4
  have HV4 := hide V4
  have m2 := ((unhide T1).1.keep hb).2
  have m3 := ((unhide T1).1.keep (bal (o := .cells #[.int .i64 h, .int .i64 w, .slice none 0 0] 24) hb)).2
  have m4 := (unhide T4).1.2
  have hz2' : W.heap.size < w2.heap.size := ((unhide T1).1.keep hb).1
  have hz4 : ((w2.alloc (.cells #[.int .i64 h, .int .i64 w, .slice none 0 0] 24)).alloc (.cells #[.int .i64 w, .int .i64 h, .slice none 0 0] 24)).heap.size = w2.heap.size + 1 + 1 := by simp
  have Hz4 := hide hz4
  clear hb hb4 S1 T1 V4 hz4
  go_upto_if 43 with fail
  clear m2 m3
  have hz4 := unhide Hz4
  clear Hz4
  generalize (w2.alloc (.cells #[.int .i64 h, .int .i64 w, .slice none 0 0] 24)).alloc (.cells #[.int .i64 w, .int .i64 h, .slice none 0 0] 24) = wb at *
  generalize w2.heap.size = bo at *
  have HZ := hide hz4
  have hbo : bo + 1 < wb.heap.size := by omega
  have hWbo : W.heap.size < bo := by omega
  clear hz4
  go_cut [1] from 43 to 43 (fun v wc => v = .int .i64 ia ∧ wb = wc)
  case first =>
    have Hia := hide hia
    clear hia
    by_cases hneg : i < 0
    · have Hz := hide (show ia = 0 by rw [unhide Hia, if_pos hneg])
      go_wp2
      go_meet
      exact ⟨by rw [unhide Hz], rfl⟩
    · have Hz := hide (show ia = i by rw [unhide Hia, if_neg hneg])
      have hneg' : decide (i < 0) = false := by simp; omega
      go_wp2
      go_meet
      exact ⟨by rw [unhide Hz], rfl⟩
  case rest =>
  obtain ⟨rfl, hwc⟩ := hcut
  subst hwc
  clear hia
  go_wp2_with fail
  rw [unhide Hi0]
  clear m4
  obtain ⟨GG, hGG⟩ : ∃ GG, GG = otF f w h := ⟨_, rfl⟩
  have HGG := hide hGG
  clear hGG
  go_loopw [10] (fun c wr => ∃ (x m cp : Nat) (q : Option Addr), x ≤ w ∧ c = .int .i64 x ∧ m = x * h ∧ OwnW wr bo h w q m cp ∧ wr.ownsRow wb.heap.size 4 1 (.slice q m cp) m (bitsV GG m) ∧ Kept (fun k => k = bo) wb wr) (fun c _ => w - (intOf c).toNat)
  case atStart => exact ⟨0, 0, 0, none, Nat.zero_le _, rfl, by simp, unhide O4, World.ownsRow_nil _ _ _ _, Kept.refl _ _⟩
  case round =>
    obtain ⟨x, m, cp, q, hx, rfl, hm, DC, hown, hkt⟩ := hrel
    have Hm := hide hm
    have hm6 : m ≤ 4096 := by rw [hm]; exact Nat.mul_le_mul (show x ≤ 64 by omega) hh
    clear hm
    have m5 := (hkt.own (unhide T4).1 (by omega)).2
    by_cases hlt : x < w
    · have hmN : m + h ≤ 4160 := by omega
      have q0 : (x : Int) < (w : Int) := by omega
      go_wp2
      clear m5
      obtain ⟨wo, rfl⟩ : ∃ wo : World, wo = wr := ⟨_, rfl⟩
      go_loopw [11] (fun c wr => ∃ (y cp : Nat) (q : Option Addr), y ≤ h ∧ c = .int .i64 y ∧ OwnW wr bo h w q (m + y) cp ∧ wr.ownsRow wb.heap.size 4 1 (.slice q (m + y) cp) (m + y) (bitsV GG (m + y)) ∧ Kept (fun k => k = bo) wb wr) (fun c _ => h - (intOf c).toNat)
      case atStart => exact ⟨0, cp, q, Nat.zero_le _, rfl, DC, hown, hkt⟩
      case round =>
        clear DC hown hkt
        obtain ⟨y, cp, q, hy, rfl, DC, hown, hkt⟩ := hrel
        have m5 := (hkt.own (unhide T4).1 (by omega)).2
        by_cases hly : y < h
        · have qy : (y : Int) < (h : Int) := by omega
          obtain ⟨yw, hyw⟩ : ∃ yw : Nat, yw = y * w := ⟨_, rfl⟩
          obtain ⟨k, hk⟩ : ∃ k : Nat, k = yw + x := ⟨_, rfl⟩
          have hkn0 : k < n := by rw [hk, hyw, unhide Hn]; exact row_lt hlt hly
          have hv0 : GG (m + y) = !f k := by rw [unhide HGG, unhide Hm, hk, hyw]; show (!tuF f w h (x * h + y)) = _; rw [tu_at_row f w h x y hly]
          have e3 := hide (show IntKind.i64.wrap ((y : Int) * (w : Int)) = (yw : Int) by
            rw [hyw, ← Int.natCast_mul]
            exact (Go.IntWalk.i64_left _).trans (Go.IntWalk.wrap64_in _ (by omega)))
          have e4 := hide (show IntKind.i64.wrap ((yw : Int) + (x : Int)) = (k : Int) by
            rw [hk]
            exact (Go.IntWalk.i64_left _).trans (Go.IntWalk.wrap64_in _ (by omega)))
          have Hv := hide (show bitsV GG (m + y + 1) = bitsV GG (m + y) ++ [.bool (!f k)] by rw [bitsV_succ, hv0])
          have Hld := hide (show ∀ V, Kept (fun k => k = bo) wb V → (V.cell? ⟨W.heap.size, 0, none⟩ = some (.int .i64 w) ∧ V.cell? ⟨W.heap.size, 1, none⟩ = some (.int .i64 h) ∧ V.cell? ⟨W.heap.size, 2, none⟩ = some (.slice (some ⟨b, o, none⟩) n cap)) ∧ V.cell? ⟨b, o + k, none⟩ = some (.bool (f k)) from fun V hV =>
            ⟨(hV.own (unhide T4).1 (by omega)).2, bs_cell (hV.bs (unhide T4).2.2.2.2 (fun q hq => unhide Hoff q (by omega))) hkn0⟩)
          generalize f k = v at *
          clear hyw hk hv0
          have hkn : (k : Int) < (n : Int) := by omega
          have hk0 : (0 : Int) ≤ (k : Int) := by omega
          have d3 := DC.1.2.2.2
          have f3 := DC.2
          have hdlt := DC.1.1
          have hszk := hkt.2.2.2.1
          go_wp2_with fail
          clear m5
          refine wp_region_noPanic ?_
          refine wp_region_held_drew (S := fun V => Kept (fun k => k = bo) wb V) (by kernel_rfl) (Kept.drew hkt) ?_
          intro _
          have hSd := Kept.drew hkt
          refine wpAnyH_take (i := 0) (oi := _) (v := .pointer (some ⟨bo, 2, none⟩)) g17_0 (by kernel_rfl) (by kernel_rfl) (by kernel_rfl) (fun _ _ _ h => h) (Or.inl ⟨by rfl, ?_⟩) (by assumption) ?_
          · intro V hSw
            try dsimp only at hSw
            go_simp
          simp only [Act.put, List.setIfInBounds_toArray, List.set_cons_zero, List.set_cons_succ]
          refine wpAnyH_take (i := 2) (oi := _) (v := .pointer (some ⟨W.heap.size, 2, none⟩)) g17_2 (by kernel_rfl) (by kernel_rfl) (by kernel_rfl) (fun _ _ _ h => h) (Or.inl ⟨by rfl, ?_⟩) (by assumption) ?_
          · intro V hSw
            try dsimp only at hSw
            go_simp
          simp only [Act.put, List.setIfInBounds_toArray, List.set_cons_zero, List.set_cons_succ]
          refine wpAnyH_take (i := 3) (oi := _) (v := .slice (some ⟨b, o, none⟩) n cap) g17_3 (by kernel_rfl) (by kernel_rfl) (by kernel_rfl) (fun _ _ _ h => h) (Or.inl ⟨by rfl, ?_⟩) (by assumption) ?_
          · intro V hSw
            try dsimp only at hSw
            have hl := unhide Hld V hSw
            go_simp
          simp only [Act.put, List.setIfInBounds_toArray, List.set_cons_zero, List.set_cons_succ]
          refine wpAnyH_take (i := 4) (oi := _) (v := .int .i64 y) g17_4 (by kernel_rfl) (by kernel_rfl) (by kernel_rfl) (fun _ _ _ h => h) (Or.inl ⟨by rfl, ?_⟩) (by assumption) ?_
          · intro V hSw
            try dsimp only at hSw
            go_simp
          simp only [Act.put, List.setIfInBounds_toArray, List.set_cons_zero, List.set_cons_succ]
          refine wpAnyH_take (i := 5) (oi := _) (v := .pointer (some ⟨W.heap.size, 0, none⟩)) g17_5 (by kernel_rfl) (by kernel_rfl) (by kernel_rfl) (fun _ _ _ h => h) (Or.inl ⟨by rfl, ?_⟩) (by assumption) ?_
          · intro V hSw
            try dsimp only at hSw
            go_simp
          simp only [Act.put, List.setIfInBounds_toArray, List.set_cons_zero, List.set_cons_succ]
          refine wpAnyH_take (i := 6) (oi := _) (v := .int .i64 w) g17_6 (by kernel_rfl) (by kernel_rfl) (by kernel_rfl) (fun _ _ _ h => h) (Or.inl ⟨by rfl, ?_⟩) (by assumption) ?_
          · intro V hSw
            try dsimp only at hSw
            have hl := unhide Hld V hSw
            go_simp
          simp only [Act.put, List.setIfInBounds_toArray, List.set_cons_zero, List.set_cons_succ]
          refine wpAnyH_take (i := 7) (oi := _) (v := .int .i64 yw) g17_7 (by kernel_rfl) (by kernel_rfl) (by kernel_rfl) (fun _ _ _ h => h) (Or.inl ⟨by rfl, ?_⟩) (by assumption) ?_
          · intro V hSw
            try dsimp only at hSw
            go_simp
            exact unhide e3
          simp only [Act.put, List.setIfInBounds_toArray, List.set_cons_zero, List.set_cons_succ]
          refine wpAnyH_take (i := 8) (oi := _) (v := .int .i64 x) g17_8 (by kernel_rfl) (by kernel_rfl) (by kernel_rfl) (fun _ _ _ h => h) (Or.inl ⟨by rfl, ?_⟩) (by assumption) ?_
          · intro V hSw
            try dsimp only at hSw
            go_simp
          simp only [Act.put, List.setIfInBounds_toArray, List.set_cons_zero, List.set_cons_succ]
          refine wpAnyH_take (i := 9) (oi := _) (v := .int .i64 k) g17_9 (by kernel_rfl) (by kernel_rfl) (by kernel_rfl) (fun _ _ _ h => h) (Or.inl ⟨by rfl, ?_⟩) (by assumption) ?_
          · intro V hSw
            try dsimp only at hSw
            go_simp
            exact unhide e4
          simp only [Act.put, List.setIfInBounds_toArray, List.set_cons_zero, List.set_cons_succ]
          refine wpAnyH_take (i := 10) (oi := _) (v := .pointer (some ⟨b, o + k, none⟩)) g17_10 (by kernel_rfl) (by kernel_rfl) (by kernel_rfl) (fun _ _ _ h => h) (Or.inl ⟨by rfl, ?_⟩) (by assumption) ?_
          · intro V hSw
            try dsimp only at hSw
            go_simp
          simp only [Act.put, List.setIfInBounds_toArray, List.set_cons_zero, List.set_cons_succ]
          refine wpAnyH_take (i := 11) (oi := _) (v := .bool v) g17_11 (by kernel_rfl) (by kernel_rfl) (by kernel_rfl) (fun _ _ _ h => h) (Or.inl ⟨by rfl, ?_⟩) (by assumption) ?_
          · intro V hSw
            try dsimp only at hSw
            have hl := unhide Hld V hSw
            go_simp
          simp only [Act.put, List.setIfInBounds_toArray, List.set_cons_zero, List.set_cons_succ]
          refine wpAnyH_take (i := 12) (oi := _) (v := .bool (!v)) g17_12 (by kernel_rfl) (by kernel_rfl) (by kernel_rfl) (fun _ _ _ h => h) (Or.inl ⟨by rfl, ?_⟩) (by assumption) ?_
          · intro V hSw
            try dsimp only at hSw
            go_simp
          simp only [Act.put, List.setIfInBounds_toArray, List.set_cons_zero, List.set_cons_succ]
          refine wpAnyH_ready (rs := [1, 13]) (by kernel_rfl) (by simp) ?_
          refine AllReadyH.cons (o := _) g17_1 (fun K hK => ?_) (AllReadyH.cons (o := _) g17_13 (fun K hK => ?_) AllReadyH.nil)
          · go_simp
            refine hK.out _ _ (Kept.drew hkt) (fun _ => ?_)
            clear hK K
            refine wpAnyH_ready (rs := [13]) (by kernel_rfl) (by simp) ?_
            refine AllReadyH.cons (o := _) g17_13 (fun K hK => ?_) AllReadyH.nil
            go_simp
            refine hK.out _ _ ((Kept.drew hkt).alloc _) (fun _ => ?_)
            clear hK K
            refine wpAnyH_ready (rs := [14]) (by kernel_rfl) (by simp) ?_
            refine AllReadyH.cons (o := _) g17_14 (fun K hK => ?_) AllReadyH.nil
            refine wp_append_own _ _ _ 22 rfl wb.heap.size 4 i0 (.bool false) 1 1 Try.underlying22 hi hz0 hz1 hz2 rfl (by decide) (.slice q (m + y) cp) (m + y) (bitsV GG (m + y)) rfl (hown.drew.alloc _) ⟨wr.heap.size, 0, none⟩ 1 1 [.bool (!v)] rfl ?c1 ?c2 ?c3 ?c4 ?c5 ?c6 ?_
            case c1 => rfl
            case c2 =>
              intro j u hj
              match j, hj with
              | 0, hj => simp at hj; subst hj; simp [Addr.add]
            case c3 => intro u hu; simp at hu; subst hu; rfl
            case c4 => unfold maxLen; omega
            case c5 => omega
            case c6 => simp; omega
            intro v' w4 hown' hgrow _
            have hbk : ∀ j, (Value.slice q (m + y) cp).ownBlock = some j → wb.heap.size ≤ j := fun j e => (hown.lt j e).1
            have S4 := ((Kept.drew hkt).alloc (.cells #[.bool (!v)] 4)).grown hgrow (fun r e => .inl (hbk r e))
            have D4 := ((DC.keep (Below.drew (Below.refl _ _))).keep (bal (o := .cells #[.bool (!v)] 4) (Below.refl _ _))).grown hgrow (fun e => by have := hbk _ e.symm; omega)
            obtain ⟨q', cap', rfl⟩ := own_form hown'
            refine hK.out _ _ S4 (fun _ => ?_)
            clear hK K hown hgrow d3 f3 DC hkt hSd hbk
            have d3 := D4.1.2.2.2
            have f3 := D4.2
            refine wpAnyH_ready (rs := [15]) (by kernel_rfl) (by simp) ?_
            refine AllReadyH.cons (o := _) g17_15 (fun K hK => ?_) AllReadyH.nil
            go_simp
            refine hK.out _ _ S4 (fun _ => ?_)
            clear hK K
            refine wpAnyH_ready (rs := [16]) (by kernel_rfl) (by simp) ?_
            refine AllReadyH.cons (o := _) g17_16 (fun K hK => ?_) AllReadyH.nil
            go_simp
            have S5 := S4.set bo 2 (.slice q' (m + y + 1) cap') rfl
            have D5 := D4.set2 q' (m + y + 1) cap'
            have own5 := ownsRow_setCell_below (a := ⟨bo, 2, none⟩) hown' (by dsimp only; omega) (.slice q' (m + y + 1) cap')
            refine hK.out _ _ S5 (fun _ => ?_)
            refine wpAnyH_done (by kernel_rfl) ?_ _
            refine NoPanic.normal ?_
            clear hK K d3 f3
            have HS5 := hide S5
            have HD5 := hide D5
            have HO5 := hide own5
            clear S5 D5 own5 S4 D4 hown'
            go_wp2
            go_roundw
            case rel =>
              refine ⟨y + 1, cap', q', by omega, by go_num, unhide HD5, ?_, unhide HS5⟩
              have hv := unhide Hv
              rw [show m + (y + 1) = m + y + 1 from rfl, hv]
              exact unhide HO5
            case measure => simp [intOf]; omega
          · go_simp
            refine hK.out _ _ ((Kept.drew hkt).alloc _) (fun _ => ?_)
            clear hK K
            refine wpAnyH_ready (rs := [1]) (by kernel_rfl) (by simp) ?_
            refine AllReadyH.cons (o := _) g17_1 (fun K hK => ?_) AllReadyH.nil
            go_simp
            refine hK.out _ _ ((Kept.drew hkt).alloc _) (fun _ => ?_)
            clear hK K
            refine wpAnyH_ready (rs := [14]) (by kernel_rfl) (by simp) ?_
            refine AllReadyH.cons (o := _) g17_14 (fun K hK => ?_) AllReadyH.nil
            refine wp_append_own _ _ _ 22 rfl wb.heap.size 4 i0 (.bool false) 1 1 Try.underlying22 hi hz0 hz1 hz2 rfl (by decide) (.slice q (m + y) cp) (m + y) (bitsV GG (m + y)) rfl (hown.drew.alloc _) ⟨wr.heap.size, 0, none⟩ 1 1 [.bool (!v)] rfl ?c1 ?c2 ?c3 ?c4 ?c5 ?c6 ?_
            case c1 => rfl
            case c2 =>
              intro j u hj
              match j, hj with
              | 0, hj => simp at hj; subst hj; simp [Addr.add]
            case c3 => intro u hu; simp at hu; subst hu; rfl
            case c4 => unfold maxLen; omega
            case c5 => omega
            case c6 => simp; omega
            intro v' w4 hown' hgrow _
            have hbk : ∀ j, (Value.slice q (m + y) cp).ownBlock = some j → wb.heap.size ≤ j := fun j e => (hown.lt j e).1
            have S4 := ((Kept.drew hkt).alloc (.cells #[.bool (!v)] 4)).grown hgrow (fun r e => .inl (hbk r e))
            have D4 := ((DC.keep (Below.drew (Below.refl _ _))).keep (bal (o := .cells #[.bool (!v)] 4) (Below.refl _ _))).grown hgrow (fun e => by have := hbk _ e.symm; omega)
            obtain ⟨q', cap', rfl⟩ := own_form hown'
            refine hK.out _ _ S4 (fun _ => ?_)
            clear hK K hown hgrow d3 f3 DC hkt hSd hbk
            have d3 := D4.1.2.2.2
            have f3 := D4.2
            refine wpAnyH_ready (rs := [15]) (by kernel_rfl) (by simp) ?_
            refine AllReadyH.cons (o := _) g17_15 (fun K hK => ?_) AllReadyH.nil
            go_simp
            refine hK.out _ _ S4 (fun _ => ?_)
            clear hK K
            refine wpAnyH_ready (rs := [16]) (by kernel_rfl) (by simp) ?_
            refine AllReadyH.cons (o := _) g17_16 (fun K hK => ?_) AllReadyH.nil
            go_simp
            have S5 := S4.set bo 2 (.slice q' (m + y + 1) cap') rfl
            have D5 := D4.set2 q' (m + y + 1) cap'
            have own5 := ownsRow_setCell_below (a := ⟨bo, 2, none⟩) hown' (by dsimp only; omega) (.slice q' (m + y + 1) cap')
            refine hK.out _ _ S5 (fun _ => ?_)
            refine wpAnyH_done (by kernel_rfl) ?_ _
            refine NoPanic.normal ?_
            clear hK K d3 f3
            have HS5 := hide S5
            have HD5 := hide D5
            have HO5 := hide own5
            clear S5 D5 own5 S4 D4 hown'
            go_wp2
            go_roundw
            case rel =>
              refine ⟨y + 1, cap', q', by omega, by go_num, unhide HD5, ?_, unhide HS5⟩
              have hv := unhide Hv
              rw [show m + (y + 1) = m + y + 1 from rfl, hv]
              exact unhide HO5
            case measure => simp [intOf]; omega
        · have e : y = h := by omega
          subst e
          have cl : ¬ ((y : Int) < (y : Int)) := by omega
          have Hs := hide (show m + y = (x + 1) * y by rw [mul_step, unhide Hm])
          have HDC := hide DC
          have Hown := hide hown
          have Hkt := hide hkt
          clear DC hown hkt
          go_wp2
          go_roundw
          case rel => exact ⟨x + 1, m + y, cp, q, by omega, by go_num, unhide Hs, unhide HDC, unhide Hown, unhide Hkt⟩
          case measure => simp [intOf]; omega
    · have e : x = w := by omega
      subst e
      have cl : ¬ ((x : Int) < (x : Int)) := by omega
      have Hmn := hide (show m = n by rw [unhide Hm, unhide Hn])
      go_wp2
      clear m5
      have HSX := hide (Kept.back (unhide S4) hkt (fun q e => by omega))
      have HTM := hide (show Tb wr W.heap.size x h (some ⟨b, o, none⟩) n cap f from ⟨hkt.own (unhide T4).1 (by omega), (unhide T4).2.1, (unhide T4).2.2.1, (unhide T4).2.2.2.1, hkt.bs (unhide T4).2.2.2.2 (fun q hq => unhide Hoff q (by omega))⟩)
      have HTO := hide (show Tb wr bo h x q n cp (otF f x h) from by
        have hmn := unhide Hmn
        subst hmn
        exact ⟨DC.1, hh, hw, by rw [unhide Hn, Nat.mul_comm], by rw [← unhide HGG]; exact own_bs hown rfl⟩)
      have HVM := hide (show OwnW wr (bo + 1) x h none 0 0 from ⟨hkt.own (unhide HV4).1 (by omega), by rw [World.frozen?_of_block (hkt.2.2.2.2 (bo + 1) (by omega) (by omega))]; exact (unhide HV4).2⟩)
      have HO2 := hide (show Off q n (bo + 1) from by
        have hmn := unhide Hmn
        subst hmn
        exact own_off hown hbo)
      have hbw : bo + 1 < wr.heap.size := Nat.lt_of_lt_of_le hbo hkt.2.2.2.1
      clear DC hown hkt S4 T4 O4 HV4 HGG Hmn Hm hm6 HZ hbo
      generalize hbv : bo + 1 = bv at *
      have hbv1 : bo < bv := by omega
      clear hbv
      generalize wr = wx at *
      obtain ⟨w, hwx⟩ : ∃ w, w = x := ⟨_, rfl⟩
      subst hwx
      obtain ⟨GM, hGM⟩ : ∃ GM, GM = mvF f w A := ⟨_, rfl⟩
      have HGM := hide hGM
      clear hGM cl hx
      go_loopw [12] (fun c wr => ∃ (y m cp : Nat) (q : Option Addr), y ≤ h ∧ c = .int .i64 y ∧ m = y * w ∧ OwnW wr bv w h q m cp ∧ wr.ownsRow wx.heap.size 4 1 (.slice q m cp) m (bitsV GM m) ∧ Kept (fun k => k = bv) wx wr) (fun c _ => h - (intOf c).toNat)
      case atStart => exact ⟨0, 0, 0, none, Nat.zero_le _, rfl, by simp, unhide HVM, World.ownsRow_nil _ _ _ _, Kept.refl _ _⟩
      case round =>
        obtain ⟨y, m, cp2, q2, hy, rfl, hm, DC, hown, hkt⟩ := hrel
        have Hm := hide hm
        have hm6 : m ≤ 4096 := by rw [hm]; exact Nat.mul_le_mul (show y ≤ 64 by omega) hw
        clear hm
        have m5 := (hkt.own (unhide HTM).1 (by omega)).2
        by_cases hlt : y < h
        · have hmN : m + w ≤ 4160 := by omega
          have q0 : (y : Int) < (h : Int) := by omega
          go_wp2
          clear m5
          obtain ⟨wo, rfl⟩ : ∃ wo : World, wo = wr := ⟨_, rfl⟩
          go_loopw [13] (fun c wr => ∃ (x cp : Nat) (q : Option Addr), x ≤ w ∧ c = .int .i64 x ∧ OwnW wr bv w h q (m + x) cp ∧ wr.ownsRow wx.heap.size 4 1 (.slice q (m + x) cp) (m + x) (bitsV GM (m + x)) ∧ Kept (fun k => k = bv) wx wr) (fun c _ => w - (intOf c).toNat)
          case atStart => exact ⟨0, cp2, q2, Nat.zero_le _, rfl, DC, hown, hkt⟩
          case round =>
            clear DC hown hkt
            obtain ⟨x, cp, q, hx, rfl, DC, hown, hkt⟩ := hrel
            have m5 := (hkt.own (unhide HTM).1 (by omega)).2
            by_cases hlx : x < w
            · have qx : (x : Int) < (w : Int) := by omega
              obtain ⟨yw, hyw⟩ : ∃ yw : Nat, yw = y * w := ⟨_, rfl⟩
              obtain ⟨xA, hxA⟩ : ∃ xA : Nat, xA = x + A := ⟨_, rfl⟩
              obtain ⟨r, hr⟩ : ∃ r : Nat, r = xA % w := ⟨_, rfl⟩
              have hrw : r < w := by rw [hr]; exact Nat.mod_lt _ hw1
              obtain ⟨k, hk⟩ : ∃ k : Nat, k = yw + r := ⟨_, rfl⟩
              have hkn0 : k < n := by rw [hk, hyw, unhide Hn]; exact row_lt hrw hlt
              have hv0 : GM (m + x) = f k := by rw [unhide HGM, unhide Hm, hk, hyw, hr, hxA, mv_at f w A y x hlx]
              have e3 := hide (show IntKind.i64.wrap ((y : Int) * (w : Int)) = (yw : Int) by
                rw [hyw, ← Int.natCast_mul]
                exact (Go.IntWalk.i64_left _).trans (Go.IntWalk.wrap64_in _ (by have := Nat.mul_le_mul (show y ≤ 64 by omega) hw; omega)))
              have e5 := hide (show IntKind.i64.wrap ((x : Int) + (A : Int)) = (xA : Int) by
                rw [hxA]
                exact (Go.IntWalk.i64_left _).trans (Go.IntWalk.wrap64_in _ (by omega)))
              have e6 := hide (show (xA : Int).tmod (w : Int) = (r : Int) by rw [hr, Int.tmod_eq_emod_of_nonneg (by omega), Int.natCast_emod])
              have e4 := hide (show IntKind.i64.wrap ((yw : Int) + (r : Int)) = (k : Int) by
                rw [hk]
                exact (Go.IntWalk.i64_left _).trans (Go.IntWalk.wrap64_in _ (by omega)))
              have Hv := hide (show bitsV GM (m + x + 1) = bitsV GM (m + x) ++ [.bool (f k)] by rw [bitsV_succ, hv0])
              have Hld := hide (show ∀ V, Kept (fun k => k = bv) wx V → (V.cell? ⟨W.heap.size, 0, none⟩ = some (.int .i64 w) ∧ V.cell? ⟨W.heap.size, 1, none⟩ = some (.int .i64 h) ∧ V.cell? ⟨W.heap.size, 2, none⟩ = some (.slice (some ⟨b, o, none⟩) n cap)) ∧ V.cell? ⟨b, o + k, none⟩ = some (.bool (f k)) from fun V hV =>
                ⟨(hV.own (unhide HTM).1 (by omega)).2, bs_cell (hV.bs (unhide HTM).2.2.2.2 (fun q hq => unhide Hoff q (by omega))) hkn0⟩)
              generalize f k = v at *
              clear hyw hk hv0 hr hxA
              have hkn : (k : Int) < (n : Int) := by omega
              have hk0 : (0 : Int) ≤ (k : Int) := by omega
              have d3 := DC.1.2.2.2
              have f3 := DC.2
              have hdlt := DC.1.1
              have hszk := hkt.2.2.2.1
              have hw00 : w ≠ 0 := by omega
              go_wp2_with fail
              clear m5
              refine wp_region_noPanic ?_
              refine wp_region_held_drew (S := fun V => Kept (fun k => k = bv) wx V) (by kernel_rfl) (Kept.drew hkt) ?_
              intro _
              have hSd := Kept.drew hkt
              refine wpAnyH_take (i := 0) (oi := _) (v := .pointer (some ⟨bv, 2, none⟩)) g21_0 (by kernel_rfl) (by kernel_rfl) (by kernel_rfl) (fun _ _ _ h => h) (Or.inl ⟨by rfl, ?_⟩) (by assumption) ?_
              · intro V hSw
                try dsimp only at hSw
                go_simp
              simp only [Act.put, List.setIfInBounds_toArray, List.set_cons_zero, List.set_cons_succ]
              refine wpAnyH_take (i := 2) (oi := _) (v := .pointer (some ⟨W.heap.size, 2, none⟩)) g21_2 (by kernel_rfl) (by kernel_rfl) (by kernel_rfl) (fun _ _ _ h => h) (Or.inl ⟨by rfl, ?_⟩) (by assumption) ?_
              · intro V hSw
                try dsimp only at hSw
                go_simp
              simp only [Act.put, List.setIfInBounds_toArray, List.set_cons_zero, List.set_cons_succ]
              refine wpAnyH_take (i := 3) (oi := _) (v := .slice (some ⟨b, o, none⟩) n cap) g21_3 (by kernel_rfl) (by kernel_rfl) (by kernel_rfl) (fun _ _ _ h => h) (Or.inl ⟨by rfl, ?_⟩) (by assumption) ?_
              · intro V hSw
                try dsimp only at hSw
                have hl := unhide Hld V hSw
                go_simp
              simp only [Act.put, List.setIfInBounds_toArray, List.set_cons_zero, List.set_cons_succ]
              refine wpAnyH_take (i := 4) (oi := _) (v := .int .i64 y) g21_4 (by kernel_rfl) (by kernel_rfl) (by kernel_rfl) (fun _ _ _ h => h) (Or.inl ⟨by rfl, ?_⟩) (by assumption) ?_
              · intro V hSw
                try dsimp only at hSw
                go_simp
              simp only [Act.put, List.setIfInBounds_toArray, List.set_cons_zero, List.set_cons_succ]
              refine wpAnyH_take (i := 5) (oi := _) (v := .pointer (some ⟨W.heap.size, 0, none⟩)) g21_5 (by kernel_rfl) (by kernel_rfl) (by kernel_rfl) (fun _ _ _ h => h) (Or.inl ⟨by rfl, ?_⟩) (by assumption) ?_
              · intro V hSw
                try dsimp only at hSw
                go_simp
              simp only [Act.put, List.setIfInBounds_toArray, List.set_cons_zero, List.set_cons_succ]
              refine wpAnyH_take (i := 6) (oi := _) (v := .int .i64 w) g21_6 (by kernel_rfl) (by kernel_rfl) (by kernel_rfl) (fun _ _ _ h => h) (Or.inl ⟨by rfl, ?_⟩) (by assumption) ?_
              · intro V hSw
                try dsimp only at hSw
                have hl := unhide Hld V hSw
                go_simp
              simp only [Act.put, List.setIfInBounds_toArray, List.set_cons_zero, List.set_cons_succ]
              refine wpAnyH_take (i := 7) (oi := _) (v := .int .i64 yw) g21_7 (by kernel_rfl) (by kernel_rfl) (by kernel_rfl) (fun _ _ _ h => h) (Or.inl ⟨by rfl, ?_⟩) (by assumption) ?_
              · intro V hSw
                try dsimp only at hSw
                go_simp
                exact unhide e3
              simp only [Act.put, List.setIfInBounds_toArray, List.set_cons_zero, List.set_cons_succ]
              refine wpAnyH_take (i := 8) (oi := _) (v := .int .i64 x) g21_8 (by kernel_rfl) (by kernel_rfl) (by kernel_rfl) (fun _ _ _ h => h) (Or.inl ⟨by rfl, ?_⟩) (by assumption) ?_
              · intro V hSw
                try dsimp only at hSw
                go_simp
              simp only [Act.put, List.setIfInBounds_toArray, List.set_cons_zero, List.set_cons_succ]
              refine wpAnyH_take (i := 9) (oi := _) (v := .int .i64 A) g21_9 (by kernel_rfl) (by kernel_rfl) (by kernel_rfl) (fun _ _ _ h => h) (Or.inl ⟨by rfl, ?_⟩) (by assumption) ?_
              · intro V hSw
                try dsimp only at hSw
                go_simp
              simp only [Act.put, List.setIfInBounds_toArray, List.set_cons_zero, List.set_cons_succ]
              refine wpAnyH_take (i := 10) (oi := _) (v := .int .i64 xA) g21_10 (by kernel_rfl) (by kernel_rfl) (by kernel_rfl) (fun _ _ _ h => h) (Or.inl ⟨by rfl, ?_⟩) (by assumption) ?_
              · intro V hSw
                try dsimp only at hSw
                go_simp
                exact unhide e5
              simp only [Act.put, List.setIfInBounds_toArray, List.set_cons_zero, List.set_cons_succ]
              refine wpAnyH_take (i := 11) (oi := _) (v := .pointer (some ⟨W.heap.size, 0, none⟩)) g21_11 (by kernel_rfl) (by kernel_rfl) (by kernel_rfl) (fun _ _ _ h => h) (Or.inl ⟨by rfl, ?_⟩) (by assumption) ?_
              · intro V hSw
                try dsimp only at hSw
                go_simp
              simp only [Act.put, List.setIfInBounds_toArray, List.set_cons_zero, List.set_cons_succ]
              refine wpAnyH_take (i := 12) (oi := _) (v := .int .i64 w) g21_12 (by kernel_rfl) (by kernel_rfl) (by kernel_rfl) (fun _ _ _ h => h) (Or.inl ⟨by rfl, ?_⟩) (by assumption) ?_
              · intro V hSw
                try dsimp only at hSw
                have hl := unhide Hld V hSw
                go_simp
              simp only [Act.put, List.setIfInBounds_toArray, List.set_cons_zero, List.set_cons_succ]
              refine wpAnyH_take (i := 13) (oi := _) (v := .int .i64 r) g21_13 (by kernel_rfl) (by kernel_rfl) (by kernel_rfl) (fun _ _ _ h => h) (Or.inl ⟨by rfl, ?_⟩) (by assumption) ?_
              · intro V hSw
                try dsimp only at hSw
                go_simp
                exact unhide e6
              simp only [Act.put, List.setIfInBounds_toArray, List.set_cons_zero, List.set_cons_succ]
              refine wpAnyH_take (i := 14) (oi := _) (v := .int .i64 k) g21_14 (by kernel_rfl) (by kernel_rfl) (by kernel_rfl) (fun _ _ _ h => h) (Or.inl ⟨by rfl, ?_⟩) (by assumption) ?_
              · intro V hSw
                try dsimp only at hSw
                go_simp
                exact unhide e4
              simp only [Act.put, List.setIfInBounds_toArray, List.set_cons_zero, List.set_cons_succ]
              refine wpAnyH_take (i := 15) (oi := _) (v := .pointer (some ⟨b, o + k, none⟩)) g21_15 (by kernel_rfl) (by kernel_rfl) (by kernel_rfl) (fun _ _ _ h => h) (Or.inl ⟨by rfl, ?_⟩) (by assumption) ?_
              · intro V hSw
                try dsimp only at hSw
                go_simp
              simp only [Act.put, List.setIfInBounds_toArray, List.set_cons_zero, List.set_cons_succ]
              refine wpAnyH_take (i := 16) (oi := _) (v := .bool v) g21_16 (by kernel_rfl) (by kernel_rfl) (by kernel_rfl) (fun _ _ _ h => h) (Or.inl ⟨by rfl, ?_⟩) (by assumption) ?_
              · intro V hSw
                try dsimp only at hSw
                have hl := unhide Hld V hSw
                go_simp
              simp only [Act.put, List.setIfInBounds_toArray, List.set_cons_zero, List.set_cons_succ]
              refine wpAnyH_ready (rs := [1, 17]) (by kernel_rfl) (by simp) ?_
              refine AllReadyH.cons (o := _) g21_1 (fun K hK => ?_) (AllReadyH.cons (o := _) g21_17 (fun K hK => ?_) AllReadyH.nil)
              · go_simp
                refine hK.out _ _ (Kept.drew hkt) (fun _ => ?_)
                clear hK K
                refine wpAnyH_ready (rs := [17]) (by kernel_rfl) (by simp) ?_
                refine AllReadyH.cons (o := _) g21_17 (fun K hK => ?_) AllReadyH.nil
                go_simp
                refine hK.out _ _ ((Kept.drew hkt).alloc _) (fun _ => ?_)
                clear hK K
                refine wpAnyH_ready (rs := [18]) (by kernel_rfl) (by simp) ?_
                refine AllReadyH.cons (o := _) g21_18 (fun K hK => ?_) AllReadyH.nil
                refine wp_append_own _ _ _ 22 rfl wx.heap.size 4 i0 (.bool false) 1 1 Try.underlying22 hi hz0 hz1 hz2 rfl (by decide) (.slice q (m + x) cp) (m + x) (bitsV GM (m + x)) rfl (hown.drew.alloc _) ⟨wr.heap.size, 0, none⟩ 1 1 [.bool v] rfl ?c1 ?c2 ?c3 ?c4 ?c5 ?c6 ?_
                case c1 => rfl
                case c2 =>
                  intro j u hj
                  match j, hj with
                  | 0, hj => simp at hj; subst hj; simp [Addr.add]
                case c3 => intro u hu; simp at hu; subst hu; rfl
                case c4 => unfold maxLen; omega
                case c5 => omega
                case c6 => simp; omega
                intro v' w4 hown' hgrow _
                have hbk : ∀ j, (Value.slice q (m + x) cp).ownBlock = some j → wx.heap.size ≤ j := fun j e => (hown.lt j e).1
                have S4 := ((Kept.drew hkt).alloc (.cells #[.bool v] 4)).grown hgrow (fun r e => .inl (hbk r e))
                have D4 := ((DC.keep (Below.drew (Below.refl _ _))).keep (bal (o := .cells #[.bool v] 4) (Below.refl _ _))).grown hgrow (fun e => by have := hbk _ e.symm; omega)
                obtain ⟨q', cap', rfl⟩ := own_form hown'
                refine hK.out _ _ S4 (fun _ => ?_)
                clear hK K hown hgrow d3 f3 DC hkt hSd hbk
                have d3 := D4.1.2.2.2
                have f3 := D4.2
                refine wpAnyH_ready (rs := [19]) (by kernel_rfl) (by simp) ?_
                refine AllReadyH.cons (o := _) g21_19 (fun K hK => ?_) AllReadyH.nil
                go_simp
                refine hK.out _ _ S4 (fun _ => ?_)
                clear hK K
                refine wpAnyH_ready (rs := [20]) (by kernel_rfl) (by simp) ?_
                refine AllReadyH.cons (o := _) g21_20 (fun K hK => ?_) AllReadyH.nil
                go_simp
                have S5 := S4.set bv 2 (.slice q' (m + x + 1) cap') rfl
                have D5 := D4.set2 q' (m + x + 1) cap'
                have own5 := ownsRow_setCell_below (a := ⟨bv, 2, none⟩) hown' (by dsimp only; omega) (.slice q' (m + x + 1) cap')
                refine hK.out _ _ S5 (fun _ => ?_)
                refine wpAnyH_done (by kernel_rfl) ?_ _
                refine NoPanic.normal ?_
                clear hK K d3 f3
                have HS5 := hide S5
                have HD5 := hide D5
                have HO5 := hide own5
                clear S5 D5 own5 S4 D4 hown'
                go_wp2
                go_roundw
                case rel =>
                  refine ⟨x + 1, cap', q', by omega, by go_num, unhide HD5, ?_, unhide HS5⟩
                  have hv := unhide Hv
                  rw [show m + (x + 1) = m + x + 1 from rfl, hv]
                  exact unhide HO5
                case measure => simp [intOf]; omega
              · go_simp
                refine hK.out _ _ ((Kept.drew hkt).alloc _) (fun _ => ?_)
                clear hK K
                refine wpAnyH_ready (rs := [1]) (by kernel_rfl) (by simp) ?_
                refine AllReadyH.cons (o := _) g21_1 (fun K hK => ?_) AllReadyH.nil
                go_simp
                refine hK.out _ _ ((Kept.drew hkt).alloc _) (fun _ => ?_)
                clear hK K
                refine wpAnyH_ready (rs := [18]) (by kernel_rfl) (by simp) ?_
                refine AllReadyH.cons (o := _) g21_18 (fun K hK => ?_) AllReadyH.nil
                refine wp_append_own _ _ _ 22 rfl wx.heap.size 4 i0 (.bool false) 1 1 Try.underlying22 hi hz0 hz1 hz2 rfl (by decide) (.slice q (m + x) cp) (m + x) (bitsV GM (m + x)) rfl (hown.drew.alloc _) ⟨wr.heap.size, 0, none⟩ 1 1 [.bool v] rfl ?c1 ?c2 ?c3 ?c4 ?c5 ?c6 ?_
                case c1 => rfl
                case c2 =>
                  intro j u hj
                  match j, hj with
                  | 0, hj => simp at hj; subst hj; simp [Addr.add]
                case c3 => intro u hu; simp at hu; subst hu; rfl
                case c4 => unfold maxLen; omega
                case c5 => omega
                case c6 => simp; omega
                intro v' w4 hown' hgrow _
                have hbk : ∀ j, (Value.slice q (m + x) cp).ownBlock = some j → wx.heap.size ≤ j := fun j e => (hown.lt j e).1
                have S4 := ((Kept.drew hkt).alloc (.cells #[.bool v] 4)).grown hgrow (fun r e => .inl (hbk r e))
                have D4 := ((DC.keep (Below.drew (Below.refl _ _))).keep (bal (o := .cells #[.bool v] 4) (Below.refl _ _))).grown hgrow (fun e => by have := hbk _ e.symm; omega)
                obtain ⟨q', cap', rfl⟩ := own_form hown'
                refine hK.out _ _ S4 (fun _ => ?_)
                clear hK K hown hgrow d3 f3 DC hkt hSd hbk
                have d3 := D4.1.2.2.2
                have f3 := D4.2
                refine wpAnyH_ready (rs := [19]) (by kernel_rfl) (by simp) ?_
                refine AllReadyH.cons (o := _) g21_19 (fun K hK => ?_) AllReadyH.nil
                go_simp
                refine hK.out _ _ S4 (fun _ => ?_)
                clear hK K
                refine wpAnyH_ready (rs := [20]) (by kernel_rfl) (by simp) ?_
                refine AllReadyH.cons (o := _) g21_20 (fun K hK => ?_) AllReadyH.nil
                go_simp
                have S5 := S4.set bv 2 (.slice q' (m + x + 1) cap') rfl
                have D5 := D4.set2 q' (m + x + 1) cap'
                have own5 := ownsRow_setCell_below (a := ⟨bv, 2, none⟩) hown' (by dsimp only; omega) (.slice q' (m + x + 1) cap')
                refine hK.out _ _ S5 (fun _ => ?_)
                refine wpAnyH_done (by kernel_rfl) ?_ _
                refine NoPanic.normal ?_
                clear hK K d3 f3
                have HS5 := hide S5
                have HD5 := hide D5
                have HO5 := hide own5
                clear S5 D5 own5 S4 D4 hown'
                go_wp2
                go_roundw
                case rel =>
                  refine ⟨x + 1, cap', q', by omega, by go_num, unhide HD5, ?_, unhide HS5⟩
                  have hv := unhide Hv
                  rw [show m + (x + 1) = m + x + 1 from rfl, hv]
                  exact unhide HO5
                case measure => simp [intOf]; omega
            · have e : x = w := by omega
              subst e
              have cl : ¬ ((x : Int) < (x : Int)) := by omega
              have Hs := hide (show m + x = (y + 1) * x by rw [mul_step, unhide Hm])
              have HDC := hide DC
              have Hown := hide hown
              have Hkt := hide hkt
              clear DC hown hkt
              go_wp2
              go_roundw
              case rel => exact ⟨y + 1, m + x, cp, q, by omega, by go_num, unhide Hs, unhide HDC, unhide Hown, unhide Hkt⟩
              case measure => simp [intOf]; omega
        · have e : y = h := by omega
          subst e
          have cl : ¬ ((y : Int) < (y : Int)) := by omega
          have Hmn := hide (show m = n by rw [unhide Hm, unhide Hn, Nat.mul_comm])
          have HSY := hide (Kept.back (unhide HSX) hkt (fun q e => by omega))
          have HT1 := hide (show Tb wr W.heap.size w y (some ⟨b, o, none⟩) n cap f from ⟨hkt.own (unhide HTM).1 (by omega), (unhide HTM).2.1, (unhide HTM).2.2.1, (unhide HTM).2.2.2.1, hkt.bs (unhide HTM).2.2.2.2 (fun q hq => unhide Hoff q (by omega))⟩)
          have HT2 := hide (show Tb wr bo y w q n cp (otF f w y) from ⟨hkt.own (unhide HTO).1 (by omega), (unhide HTO).2.1, (unhide HTO).2.2.1, (unhide HTO).2.2.2.1, hkt.bs (unhide HTO).2.2.2.2 (fun q' hq => by subst hq; exact unhide HO2)⟩)
          have HT3 := hide (show Tb wr bv w y q2 n cp2 (mvF f w A) from by
            have hmn := unhide Hmn
            subst hmn
            exact ⟨DC.1, hw, hh, by rw [unhide Hn], by rw [← unhide HGM]; exact own_bs hown rfl⟩)
          have c2 := (unhide HT2).1.2
          clear DC hown hkt HSX HTM HTO HVM HGM Hmn Hm
          go_wp2_with fail
          clear c2 m5
          refine (unhide HF2 _ _ _ (unhide HT2).2).mono ?_
          rintro e w7 ⟨rfl, hb⟩
          have S7 := hide (btrans (unhide HSY) hb)
          have U1 := hide ((unhide HT1).keep hb)
          have U3 := hide ((unhide HT3).keep hb)
          have c3 := (unhide U3).1.2
          clear hb HSY HT1 HT2 HT3
          go_wp2_with fail
          clear c3
          refine (unhide HF3 _ _ _ (unhide U3).2).mono ?_
          rintro e w8 ⟨rfl, hb⟩
          have S8 := hide (btrans (unhide S7) hb)
          have Y1 := hide ((unhide U1).keep hb)
          have z1 : ((along : Int) != (along : Int)) = false := by simp
          have z2 : ((down : Int) != (down : Int)) = false := by simp
          clear hb S7 U1 U3
          go_wp2
          obtain ⟨h, hhy⟩ : ∃ h, h = y := ⟨_, rfl⟩
          subst hhy
          clear cl hy HF1 HF2 HF3 z1 z2
          go_loopw [19] (fun c wr => ∃ y : Nat, y ≤ h ∧ c = .int .i64 y ∧ Below w8.heap.size w8 wr) (fun c _ => h - (intOf c).toNat)
          case atStart => exact ⟨0, Nat.zero_le _, rfl, Below.refl _ _⟩
          case round =>
            obtain ⟨y, hy, rfl, hb⟩ := hrel
            have m6 := ((unhide Y1).1.keep hb).2
            by_cases hlt : y < h
            · have q0 : (y : Int) < (h : Int) := by omega
              go_wp2
              obtain ⟨wo, rfl⟩ : ∃ wo : World, wo = wr := ⟨_, rfl⟩
              clear m6
              go_loopw [20, 21] (fun d c wr => ∃ x : Nat, x ≤ w ∧ c = .int .i64 x ∧ d = .int .i64 (tl0 (soF (fun x => f (y * w + x)) false) x : Nat) ∧ Below w8.heap.size w8 wr) (fun _ c _ => w - (intOf c).toNat)
              case atStart => exact ⟨0, Nat.zero_le _, rfl, rfl, hb⟩
              case round =>
                clear hb
                obtain ⟨x, hx, rfl, rfl, hb⟩ := hrel
                have m6 := ((unhide Y1).1.keep hb).2
                by_cases hlx : x < w
                · have qx : (x : Int) < (w : Int) := by omega
                  obtain ⟨k, hk⟩ : ∃ k : Nat, k = y * w + x := ⟨_, rfl⟩
                  have hkn0 : k < n := by rw [hk, unhide Hn]; exact row_lt hlx hlt
                  have c5 := bs_cell ((unhide Y1).2.2.2.2.keep hb) hkn0
                  have hle := unhide Htl y (x + 1) hlt (by omega)
                  have hyw : y * w ≤ 4096 := Nat.mul_le_mul (show y ≤ 64 by omega) hw
                  have e3 : wrap64 ((y : Int) * (w : Int)) = ((y * w : Nat) : Int) := by
                    rw [← Int.natCast_mul]
                    exact Go.IntWalk.wrap64_in _ (by omega)
                  obtain ⟨yw, hyw2⟩ : ∃ yw : Nat, yw = y * w := ⟨_, rfl⟩
                  have Hst := hide (show ∀ v, f k = v → tl0 (soF (fun x => f (y * w + x)) false) (x + 1) = if v then 0 else tl0 (soF (fun x => f (y * w + x)) false) x + 1 from fun v hv => by
                    show (if (f (y * w + x) == false) = true then _ else _) = _
                    rw [← hk, hv]
                    cases v <;> rfl)
                  generalize hT : tl0 (soF (fun x => f (y * w + x)) false) (x + 1) = T1 at *
                  generalize tl0 (soF (fun x => f (y * w + x)) false) x = T0 at *
                  have HT := hide hT
                  clear hT
                  rw [← hyw2] at hk hyw e3
                  have e4 : (yw : Int) + (x : Int) = (k : Int) := by omega
                  have hkn : (k : Int) < (n : Int) := by omega
                  have hk0 : (0 : Int) ≤ (k : Int) := by omega
                  have Hst2 := hide (unhide Hst (f k) rfl)
                  clear Hst hk hyw2
                  generalize f k = v at *
                  cases v with
                  | true =>
                    have HT1 := hide (show T1 = 0 from unhide Hst2)
                    clear Hst2
                    go_wp2
                    go_roundw
                    case rel => exact ⟨x + 1, by omega, by go_num, by rw [unhide HT, unhide HT1]; rfl, hb⟩
                    case measure => simp [intOf]; omega
                  | false =>
                    have HT1 := hide (show T1 = T0 + 1 from unhide Hst2)
                    have t1 : (T0 : Int) + 1 ≤ (along : Int) := by have := unhide HT1; omega
                    have t2 : ¬ ((along : Int) < (T0 : Int) + 1) := by omega
                    clear Hst2
                    go_wp2
                    go_roundw
                    case rel => exact ⟨x + 1, by omega, by go_num, by rw [unhide HT, unhide HT1]; rfl, hb⟩
                    case measure => simp [intOf]; omega
                · have e : x = w := by omega
                  subst e
                  have cl : ¬ ((x : Int) < (x : Int)) := by omega
                  go_wp2
                  go_roundw
                  case rel => exact ⟨y + 1, by omega, by go_num, hb⟩
                  case measure => simp [intOf]; omega
            · have e : y = h := by omega
              subst e
              have cl : ¬ ((y : Int) < (y : Int)) := by omega
              have Sf := hide (btrans (unhide S8) hb)
              go_wp2
              go_ret
              exact ⟨rfl, unhide Sf⟩
end Go.Proofs.Ytppnfafmgkpnnaa
