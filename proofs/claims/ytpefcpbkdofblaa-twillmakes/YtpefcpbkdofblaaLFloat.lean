/-
  TruthFloats: the law's walk.
-/
import Derived.Test.YtpefcpbkdofblaaLFloatM
import Derived.Deep.CutRange
namespace Go.Proofs.Ytpefcpbkdofblaa
open Go.RowKit Go.Shelf

theorem g17_0 {a0 a1 a2 a3 a4 a5 a6 a7 a8 a9 a10 a11 a12 a13 a14 a15 a16 : Oper} : (#[a0, a1, a2, a3, a4, a5, a6, a7, a8, a9, a10, a11, a12, a13, a14, a15, a16] : Array Oper)[0]? = some a0 := rfl
theorem g17_1 {a0 a1 a2 a3 a4 a5 a6 a7 a8 a9 a10 a11 a12 a13 a14 a15 a16 : Oper} : (#[a0, a1, a2, a3, a4, a5, a6, a7, a8, a9, a10, a11, a12, a13, a14, a15, a16] : Array Oper)[1]? = some a1 := rfl
theorem g17_2 {a0 a1 a2 a3 a4 a5 a6 a7 a8 a9 a10 a11 a12 a13 a14 a15 a16 : Oper} : (#[a0, a1, a2, a3, a4, a5, a6, a7, a8, a9, a10, a11, a12, a13, a14, a15, a16] : Array Oper)[2]? = some a2 := rfl
theorem g17_3 {a0 a1 a2 a3 a4 a5 a6 a7 a8 a9 a10 a11 a12 a13 a14 a15 a16 : Oper} : (#[a0, a1, a2, a3, a4, a5, a6, a7, a8, a9, a10, a11, a12, a13, a14, a15, a16] : Array Oper)[3]? = some a3 := rfl
theorem g17_4 {a0 a1 a2 a3 a4 a5 a6 a7 a8 a9 a10 a11 a12 a13 a14 a15 a16 : Oper} : (#[a0, a1, a2, a3, a4, a5, a6, a7, a8, a9, a10, a11, a12, a13, a14, a15, a16] : Array Oper)[4]? = some a4 := rfl
theorem g17_5 {a0 a1 a2 a3 a4 a5 a6 a7 a8 a9 a10 a11 a12 a13 a14 a15 a16 : Oper} : (#[a0, a1, a2, a3, a4, a5, a6, a7, a8, a9, a10, a11, a12, a13, a14, a15, a16] : Array Oper)[5]? = some a5 := rfl
theorem g17_6 {a0 a1 a2 a3 a4 a5 a6 a7 a8 a9 a10 a11 a12 a13 a14 a15 a16 : Oper} : (#[a0, a1, a2, a3, a4, a5, a6, a7, a8, a9, a10, a11, a12, a13, a14, a15, a16] : Array Oper)[6]? = some a6 := rfl
theorem g17_7 {a0 a1 a2 a3 a4 a5 a6 a7 a8 a9 a10 a11 a12 a13 a14 a15 a16 : Oper} : (#[a0, a1, a2, a3, a4, a5, a6, a7, a8, a9, a10, a11, a12, a13, a14, a15, a16] : Array Oper)[7]? = some a7 := rfl
theorem g17_8 {a0 a1 a2 a3 a4 a5 a6 a7 a8 a9 a10 a11 a12 a13 a14 a15 a16 : Oper} : (#[a0, a1, a2, a3, a4, a5, a6, a7, a8, a9, a10, a11, a12, a13, a14, a15, a16] : Array Oper)[8]? = some a8 := rfl
theorem g17_9 {a0 a1 a2 a3 a4 a5 a6 a7 a8 a9 a10 a11 a12 a13 a14 a15 a16 : Oper} : (#[a0, a1, a2, a3, a4, a5, a6, a7, a8, a9, a10, a11, a12, a13, a14, a15, a16] : Array Oper)[9]? = some a9 := rfl
theorem g17_10 {a0 a1 a2 a3 a4 a5 a6 a7 a8 a9 a10 a11 a12 a13 a14 a15 a16 : Oper} : (#[a0, a1, a2, a3, a4, a5, a6, a7, a8, a9, a10, a11, a12, a13, a14, a15, a16] : Array Oper)[10]? = some a10 := rfl
theorem g17_11 {a0 a1 a2 a3 a4 a5 a6 a7 a8 a9 a10 a11 a12 a13 a14 a15 a16 : Oper} : (#[a0, a1, a2, a3, a4, a5, a6, a7, a8, a9, a10, a11, a12, a13, a14, a15, a16] : Array Oper)[11]? = some a11 := rfl
theorem g17_12 {a0 a1 a2 a3 a4 a5 a6 a7 a8 a9 a10 a11 a12 a13 a14 a15 a16 : Oper} : (#[a0, a1, a2, a3, a4, a5, a6, a7, a8, a9, a10, a11, a12, a13, a14, a15, a16] : Array Oper)[12]? = some a12 := rfl
theorem g17_13 {a0 a1 a2 a3 a4 a5 a6 a7 a8 a9 a10 a11 a12 a13 a14 a15 a16 : Oper} : (#[a0, a1, a2, a3, a4, a5, a6, a7, a8, a9, a10, a11, a12, a13, a14, a15, a16] : Array Oper)[13]? = some a13 := rfl
theorem g17_14 {a0 a1 a2 a3 a4 a5 a6 a7 a8 a9 a10 a11 a12 a13 a14 a15 a16 : Oper} : (#[a0, a1, a2, a3, a4, a5, a6, a7, a8, a9, a10, a11, a12, a13, a14, a15, a16] : Array Oper)[14]? = some a14 := rfl
theorem g17_15 {a0 a1 a2 a3 a4 a5 a6 a7 a8 a9 a10 a11 a12 a13 a14 a15 a16 : Oper} : (#[a0, a1, a2, a3, a4, a5, a6, a7, a8, a9, a10, a11, a12, a13, a14, a15, a16] : Array Oper)[15]? = some a15 := rfl
theorem g17_16 {a0 a1 a2 a3 a4 a5 a6 a7 a8 a9 a10 a11 a12 a13 a14 a15 a16 : Oper} : (#[a0, a1, a2, a3, a4, a5, a6, a7, a8, a9, a10, a11, a12, a13, a14, a15, a16] : Array Oper)[16]? = some a16 := rfl
theorem g21_0 {a0 a1 a2 a3 a4 a5 a6 a7 a8 a9 a10 a11 a12 a13 a14 a15 a16 a17 a18 a19 a20 : Oper} : (#[a0, a1, a2, a3, a4, a5, a6, a7, a8, a9, a10, a11, a12, a13, a14, a15, a16, a17, a18, a19, a20] : Array Oper)[0]? = some a0 := rfl
theorem g21_1 {a0 a1 a2 a3 a4 a5 a6 a7 a8 a9 a10 a11 a12 a13 a14 a15 a16 a17 a18 a19 a20 : Oper} : (#[a0, a1, a2, a3, a4, a5, a6, a7, a8, a9, a10, a11, a12, a13, a14, a15, a16, a17, a18, a19, a20] : Array Oper)[1]? = some a1 := rfl
theorem g21_2 {a0 a1 a2 a3 a4 a5 a6 a7 a8 a9 a10 a11 a12 a13 a14 a15 a16 a17 a18 a19 a20 : Oper} : (#[a0, a1, a2, a3, a4, a5, a6, a7, a8, a9, a10, a11, a12, a13, a14, a15, a16, a17, a18, a19, a20] : Array Oper)[2]? = some a2 := rfl
theorem g21_3 {a0 a1 a2 a3 a4 a5 a6 a7 a8 a9 a10 a11 a12 a13 a14 a15 a16 a17 a18 a19 a20 : Oper} : (#[a0, a1, a2, a3, a4, a5, a6, a7, a8, a9, a10, a11, a12, a13, a14, a15, a16, a17, a18, a19, a20] : Array Oper)[3]? = some a3 := rfl
theorem g21_4 {a0 a1 a2 a3 a4 a5 a6 a7 a8 a9 a10 a11 a12 a13 a14 a15 a16 a17 a18 a19 a20 : Oper} : (#[a0, a1, a2, a3, a4, a5, a6, a7, a8, a9, a10, a11, a12, a13, a14, a15, a16, a17, a18, a19, a20] : Array Oper)[4]? = some a4 := rfl
theorem g21_5 {a0 a1 a2 a3 a4 a5 a6 a7 a8 a9 a10 a11 a12 a13 a14 a15 a16 a17 a18 a19 a20 : Oper} : (#[a0, a1, a2, a3, a4, a5, a6, a7, a8, a9, a10, a11, a12, a13, a14, a15, a16, a17, a18, a19, a20] : Array Oper)[5]? = some a5 := rfl
theorem g21_6 {a0 a1 a2 a3 a4 a5 a6 a7 a8 a9 a10 a11 a12 a13 a14 a15 a16 a17 a18 a19 a20 : Oper} : (#[a0, a1, a2, a3, a4, a5, a6, a7, a8, a9, a10, a11, a12, a13, a14, a15, a16, a17, a18, a19, a20] : Array Oper)[6]? = some a6 := rfl
theorem g21_7 {a0 a1 a2 a3 a4 a5 a6 a7 a8 a9 a10 a11 a12 a13 a14 a15 a16 a17 a18 a19 a20 : Oper} : (#[a0, a1, a2, a3, a4, a5, a6, a7, a8, a9, a10, a11, a12, a13, a14, a15, a16, a17, a18, a19, a20] : Array Oper)[7]? = some a7 := rfl
theorem g21_8 {a0 a1 a2 a3 a4 a5 a6 a7 a8 a9 a10 a11 a12 a13 a14 a15 a16 a17 a18 a19 a20 : Oper} : (#[a0, a1, a2, a3, a4, a5, a6, a7, a8, a9, a10, a11, a12, a13, a14, a15, a16, a17, a18, a19, a20] : Array Oper)[8]? = some a8 := rfl
theorem g21_9 {a0 a1 a2 a3 a4 a5 a6 a7 a8 a9 a10 a11 a12 a13 a14 a15 a16 a17 a18 a19 a20 : Oper} : (#[a0, a1, a2, a3, a4, a5, a6, a7, a8, a9, a10, a11, a12, a13, a14, a15, a16, a17, a18, a19, a20] : Array Oper)[9]? = some a9 := rfl
theorem g21_10 {a0 a1 a2 a3 a4 a5 a6 a7 a8 a9 a10 a11 a12 a13 a14 a15 a16 a17 a18 a19 a20 : Oper} : (#[a0, a1, a2, a3, a4, a5, a6, a7, a8, a9, a10, a11, a12, a13, a14, a15, a16, a17, a18, a19, a20] : Array Oper)[10]? = some a10 := rfl
theorem g21_11 {a0 a1 a2 a3 a4 a5 a6 a7 a8 a9 a10 a11 a12 a13 a14 a15 a16 a17 a18 a19 a20 : Oper} : (#[a0, a1, a2, a3, a4, a5, a6, a7, a8, a9, a10, a11, a12, a13, a14, a15, a16, a17, a18, a19, a20] : Array Oper)[11]? = some a11 := rfl
theorem g21_12 {a0 a1 a2 a3 a4 a5 a6 a7 a8 a9 a10 a11 a12 a13 a14 a15 a16 a17 a18 a19 a20 : Oper} : (#[a0, a1, a2, a3, a4, a5, a6, a7, a8, a9, a10, a11, a12, a13, a14, a15, a16, a17, a18, a19, a20] : Array Oper)[12]? = some a12 := rfl
theorem g21_13 {a0 a1 a2 a3 a4 a5 a6 a7 a8 a9 a10 a11 a12 a13 a14 a15 a16 a17 a18 a19 a20 : Oper} : (#[a0, a1, a2, a3, a4, a5, a6, a7, a8, a9, a10, a11, a12, a13, a14, a15, a16, a17, a18, a19, a20] : Array Oper)[13]? = some a13 := rfl
theorem g21_14 {a0 a1 a2 a3 a4 a5 a6 a7 a8 a9 a10 a11 a12 a13 a14 a15 a16 a17 a18 a19 a20 : Oper} : (#[a0, a1, a2, a3, a4, a5, a6, a7, a8, a9, a10, a11, a12, a13, a14, a15, a16, a17, a18, a19, a20] : Array Oper)[14]? = some a14 := rfl
theorem g21_15 {a0 a1 a2 a3 a4 a5 a6 a7 a8 a9 a10 a11 a12 a13 a14 a15 a16 a17 a18 a19 a20 : Oper} : (#[a0, a1, a2, a3, a4, a5, a6, a7, a8, a9, a10, a11, a12, a13, a14, a15, a16, a17, a18, a19, a20] : Array Oper)[15]? = some a15 := rfl
theorem g21_16 {a0 a1 a2 a3 a4 a5 a6 a7 a8 a9 a10 a11 a12 a13 a14 a15 a16 a17 a18 a19 a20 : Oper} : (#[a0, a1, a2, a3, a4, a5, a6, a7, a8, a9, a10, a11, a12, a13, a14, a15, a16, a17, a18, a19, a20] : Array Oper)[16]? = some a16 := rfl
theorem g21_17 {a0 a1 a2 a3 a4 a5 a6 a7 a8 a9 a10 a11 a12 a13 a14 a15 a16 a17 a18 a19 a20 : Oper} : (#[a0, a1, a2, a3, a4, a5, a6, a7, a8, a9, a10, a11, a12, a13, a14, a15, a16, a17, a18, a19, a20] : Array Oper)[17]? = some a17 := rfl
theorem g21_18 {a0 a1 a2 a3 a4 a5 a6 a7 a8 a9 a10 a11 a12 a13 a14 a15 a16 a17 a18 a19 a20 : Oper} : (#[a0, a1, a2, a3, a4, a5, a6, a7, a8, a9, a10, a11, a12, a13, a14, a15, a16, a17, a18, a19, a20] : Array Oper)[18]? = some a18 := rfl
theorem g21_19 {a0 a1 a2 a3 a4 a5 a6 a7 a8 a9 a10 a11 a12 a13 a14 a15 a16 a17 a18 a19 a20 : Oper} : (#[a0, a1, a2, a3, a4, a5, a6, a7, a8, a9, a10, a11, a12, a13, a14, a15, a16, a17, a18, a19, a20] : Array Oper)[19]? = some a19 := rfl
theorem g21_20 {a0 a1 a2 a3 a4 a5 a6 a7 a8 a9 a10 a11 a12 a13 a14 a15 a16 a17 a18 a19 a20 : Oper} : (#[a0, a1, a2, a3, a4, a5, a6, a7, a8, a9, a10, a11, a12, a13, a14, a15, a16, a17, a18, a19, a20] : Array Oper)[20]? = some a20 := rfl

/-- truths that are being made, in a box: the bits may be written -/
def OwnW (W : World) (b : Nat) (w h : Int) (p : Option Addr) (n cap : Nat) : Prop := OwnM W b w h p n cap ∧ W.frozen? ⟨b, 2, none⟩ = false
theorem OwnW.grown {a c : World} {row : Option Nat} {b : Nat} {w h : Int} {p : Option Addr} {n cap : Nat} (k : OwnW a b w h p n cap) (hg : a.grownBy c row) (hne : some b ≠ row) : OwnW c b w h p n cap := ⟨k.1.grown hg hne, gfroz hg k.1.1 hne k.2⟩
theorem OwnW.keep {W w1 : World} {b : Nat} {w h : Int} {p : Option Addr} {n cap : Nat} (k : OwnW W b w h p n cap) (hb : Below W.heap.size W w1) : OwnW w1 b w h p n cap := k.grown (gbelow none hb) (by simp)
theorem OwnW.set2 {W : World} {b : Nat} {w h : Int} {p : Option Addr} {n cap : Nat} (k : OwnW W b w h p n cap) (p' : Option Addr) (n' cap' : Nat) : OwnW (W.setCell ⟨b, 2, none⟩ (.slice p' n' cap')) b w h p' n' cap' := by
  obtain ⟨⟨h0, h1, h2, h3⟩, h4⟩ := k
  refine ⟨⟨by simpa using h0, ?_, ?_, ?_⟩, by rw [World.frozen?_setCell]; exact h4⟩
  · simp [go_sem, h1]
  · simp [go_sem, h2]
  · exact World.cell?_setCell_same' _ _ _ (by rw [h3]; rfl)
theorem OwnW.new (W : World) (w h : Int) : OwnW (W.alloc (.cells #[.int .i64 w, .int .i64 h, .slice none 0 0] 25)) W.heap.size w h none 0 0 := ⟨OwnM.new W w h none 0 0 25, by simp [go_sem]⟩
theorem own_form {B : Nat} {e : TypeId} {n z : Nat} {xs : List Value} {v : Value} {w : World} (h : w.ownsRow B e z v n xs) : ∃ q cap, v = .slice q n cap := by
  rcases h.2 with ⟨hv, h0⟩ | ⟨g, cap, cur, hv, _⟩
  · exact ⟨none, 0, by rw [hv, h0]⟩
  · exact ⟨_, _, hv⟩
def bitsV (f : Nat → Bool) (m : Nat) : List Value := (List.range m).map fun j => Value.bool (f j)
theorem bitsV_succ (f : Nat → Bool) (m : Nat) : bitsV f (m + 1) = bitsV f m ++ [.bool (f m)] := by simp [bitsV, List.range_succ]
theorem own_bs {W : World} {B m n cap : Nat} {q : Option Addr} {f : Nat → Bool} (h : W.ownsRow B 4 1 (.slice q n cap) m (bitsV f m)) (hn : n = m) : Bs W q m cap f := by
  subst hn
  rcases h.2 with ⟨hv, h0⟩ | ⟨g, c, cur, hv, _, _, hc, _⟩
  · cases hv; exact ⟨Nat.zero_le _, .inl rfl⟩
  · cases hv
    refine ⟨hc, .inr ⟨g, 0, rfl, (h.lt g rfl).2, fun k hk => ?_⟩⟩
    rw [Nat.zero_add, h.cellAt k (by omega)]
    simp [bitsV, hk]
theorem own_off {W : World} {B n cap m j : Nat} {q : Option Addr} {xs : List Value} (h : W.ownsRow B 4 1 (.slice q n cap) m xs) (hj : j < B) : Off q n j := by
  rcases h.2 with ⟨hv, h0⟩ | ⟨g, c, cur, hv, hg, _⟩
  · cases hv; exact .inl rfl
  · cases hv
    exact .inr fun a e => by cases e; dsimp only; omega
theorem Kept.drew {S : Nat → Prop} {w0 W : World} (h : Kept S w0 W) : Kept S w0 W.drew := h.below (Below.drew (Below.refl _ _))
theorem Kept.alloc {S : Nat → Prop} {w0 W : World} (h : Kept S w0 W) (o : Obj) : Kept S w0 (W.alloc o) := h.below (bal (Below.refl _ _))
theorem Kept.set {S : Nat → Prop} {w0 W : World} (h : Kept S w0 W) (b o : Nat) (v : Value) (hS : S b) : Kept S w0 (W.setCell ⟨b, o, none⟩ v) := h.grown (gset (World.grownBy.refl _ _) o v) (fun r e => by cases e; exact .inr hS)
theorem Kept.trans {S T U : Nat → Prop} {w0 W V : World} (h : Kept S w0 W) (k : Kept T W V) (hS : ∀ j, S j → U j) (hT : ∀ j, T j → U j) : Kept U w0 V :=
  ⟨k.1.trans h.1, k.2.1.trans h.2.1, k.2.2.1.trans h.2.2.1, Nat.le_trans h.2.2.2.1 k.2.2.2.1, fun j hj hU => (k.2.2.2.2 j (Nat.lt_of_lt_of_le hj h.2.2.2.1) (fun q => hU (hT j q))).trans (h.2.2.2.2 j hj (fun q => hU (hS j q)))⟩

theorem bs_cell {W : World} {b o n cap k : Nat} {f : Nat → Bool} (h : Bs W (some ⟨b, o, none⟩) n cap f) (hk : k < n) : W.cell? ⟨b, o + k, none⟩ = some (.bool (f k)) := by
  rcases h.2 with h0 | ⟨b', o', e, _, hc⟩
  · omega
  · cases e; exact hc k hk
end Go.Proofs.Ytpefcpbkdofblaa
