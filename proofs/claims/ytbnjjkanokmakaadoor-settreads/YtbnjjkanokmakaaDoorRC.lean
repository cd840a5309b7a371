/-
  The reference: Threads.
-/
import Derived.Test.YtbnjjkanokmakaaDoorRB
import Derived.Test.YtbnjjkanokmakaaDoorSD
import Derived.OneCell
namespace Go.Proofs.YtbnjjkanokmakaaDoor
open Go.RowKit

/-- numbers behind a pointer -/
def Bo (W0 : World) (ob : Nat) (q : Option Addr) (k cap : Nat) (T : List Int) (wr : World) : Prop := (W0.heap.size ≤ ob ∧ Tg wr ob 32) ∧ wr.cell? ⟨ob, 0, none⟩ = some (.slice q k cap) ∧ wr.frozen? ⟨ob, 0, none⟩ = false ∧ wr.ownsRow W0.heap.size 3 1 (.slice q k cap) k (zsV T) ∧ Below W0.heap.size W0 wr
/-- what is changed -/
def Ch (ob : Nat) (w : World) (i : Nat) : Prop := i = ob ∨ Tg w i 3
theorem Bo.keep {W0 wr V : World} {ob k cap : Nat} {q : Option Addr} {T : List Int} (h : Bo W0 ob q k cap T wr) (hb : Below wr.heap.size wr V) : Bo W0 ob q k cap T V := by
  obtain ⟨⟨h1, h2⟩, h3, h4, h5, h6⟩ := h
  exact ⟨⟨h1, h2.kept (S := fun _ => False) (Kept.of hb) h2.lt (fun q => q)⟩, keepC hb h2.lt h3, keepF hb h2.lt h4, own_keep h5 hb, h6.trans (hb.mono h6.size)⟩
theorem Bo.ne {W0 wr : World} {ob k cap : Nat} {q : Option Addr} {T : List Int} (h : Bo W0 ob q k cap T wr) : (Value.slice q k cap).ownBlock ≠ some ob := fun e => tg_not (own_tg h.2.2.2.1 e) (by decide) h.1.2
theorem Bo.step {W0 w V : World} {ob k cap k' cap' : Nat} {q q' : Option Addr} {T T' : List Int} (h : Bo W0 ob q k cap T w) (ho : V.ownsRow W0.heap.size 3 1 (.slice q' k' cap') k' (zsV T')) (hg : w.grownBy V (Value.slice q k cap).ownBlock) :
    Bo W0 ob q' k' cap' T' (V.setCell ⟨ob, 0, none⟩ (.slice q' k' cap')) ∧ Kept (Ch ob w) w (V.setCell ⟨ob, 0, none⟩ (.slice q' k' cap')) := by
  have kp : Kept (fun i => (Value.slice q k cap).ownBlock = some i) w V := grown_kept hg (fun r e => .inl e)
  obtain ⟨⟨h1, h2⟩, h3, h4, h5, h6⟩ := id h
  have ht := h2.kept kp h2.lt h.ne
  have hc := kp.cell h2.lt h.ne h3
  have hf := kp.froz h2.lt h.ne h4
  have hb := h6.grown hg h6.size (fun k e => (h5.lt k e).1)
  have hne : (Value.slice q' k' cap').ownBlock ≠ some ob := fun e => tg_not (own_tg ho e) (by decide) ht
  refine ⟨⟨⟨h1, ht.set _ _⟩, csame hc, fset hf, ownsRow_setCell_other ho hne _, hb.setCell (p := ⟨ob, 0, none⟩) h1 _⟩, ?_⟩
  exact (kp.more (T := Ch ob w) (fun i e => .inl (.inr (own_tg h5 e)))).set 0 _ (.inl (.inl rfl))
theorem Ch.more {ob : Nat} {w V : World} (k : Kept (Ch ob w) w V) : ∀ i, Ch ob V i → Ch ob w i ∨ w.heap.size ≤ i := by
  rintro i (e | e)
  · exact .inl (.inl e)
  · by_cases hi : i < w.heap.size
    · by_cases hc : Ch ob w i
      · exact .inl hc
      · exact .inl (.inr ((tg_block (k.2.2.2.2 i hi hc)).1 e))
    · exact .inr (by omega)
theorem Ch.trans {ob : Nat} {w V U : World} (k : Kept (Ch ob w) w V) (l : Kept (Ch ob V) V U) : Kept (Ch ob w) w U := by
  refine ⟨l.1.trans k.1, l.2.1.trans k.2.1, l.2.2.1.trans k.2.2.1, Nat.le_trans k.2.2.2.1 l.2.2.2.1, fun i hi hS => ?_⟩
  rw [l.2.2.2.2 i (by have := k.size; omega) (fun e => by rcases Ch.more k i e with h | h; exact hS h; omega), k.2.2.2.2 i hi hS]
/-- threads have been added -/
def AdIs (W0 w : World) (ob : Nat) (T : List Int) (e : Ending) (V : World) : Prop := e = .returned (.tuple #[]) ∧ (∃ q cap, Bo W0 ob q T.length cap T V) ∧ Kept (Ch ob w) w V

set_option maxRecDepth 100000 in
set_option maxHeartbeats 4000000 in
theorem add_any (W0 w : World) (ob : Nat) (q : Option Addr) (cap : Nat) (T : List Int) (u : Int) (c : Nat) (h : Bo W0 ob q T.length cap T w) (hk : T.length + c ≤ 4096) : Calls Tryd.prog 27 #[.agg #[.int .i64 u, .int .i64 (c : Int)], .pointer (some ⟨ob, 0, none⟩)] w (AdIs W0 w ob (T ++ List.replicate c u)) := by
  have Hfin := hide (fun V q cap (h1 : Bo W0 ob q (T ++ List.replicate c u).length cap (T ++ List.replicate c u) V) (h2 : Kept (Ch ob w) w V) => show AdIs W0 w ob (T ++ List.replicate c u) (.returned (.tuple #[])) V from ⟨rfl, ⟨_, _, h1⟩, h2⟩)
  have Hln := hide (fun y => show (T ++ List.replicate y u).length = T.length + y by simp)
  have bn := bnew w (.cells #[.int .i64 u, .int .i64 (c : Int)] 45)
  have HB := hide (B2.new w u (c : Int) 45)
  have HT := hide (Tg.new w #[.int .i64 u, .int .i64 (c : Int)] 45)
  have HO := hide (h.keep bn)
  have HK := hide (Kept.of (S := Ch ob w) bn)
  have Hl0 := hide (show T ++ List.replicate 0 u = T by simp)
  have Hap := hide (fun y => show zsV (T ++ List.replicate (y + 1) u) = zsV (T ++ List.replicate y u) ++ [.int .i64 u] by rw [List.replicate_succ', ← List.append_assoc, zsV_app]; rfl)
  have Hsz := hide (show ob ≠ w.heap.size from fun e => by have := h.1.2.lt; omega)
  clear h bn
  generalize AdIs W0 w ob (T ++ List.replicate c u) = PP at *
  generalize T.length = k at *
  go_enter Tryd.func27, Tryd.ntmps27
  go_upto_region 1 with fail
  generalize w.alloc (.cells #[.int .i64 u, .int .i64 (c : Int)] 45) = w1 at *
  generalize w.heap.size = n1 at *
  go_wp2
  go_loopw [3] (fun i wr => ∃ (y cp : Nat) (qo : Option Addr), y ≤ c ∧ i = .int .i64 (y : Int) ∧ Bo W0 ob qo (k + y) cp (T ++ List.replicate y u) wr ∧ B2 wr n1 u (c : Int) ∧ Tg wr n1 45 ∧ Kept (Ch ob w) w wr) (fun i _ => c - (intOf i).toNat)
  case atStart => exact ⟨0, cap, q, by omega, rfl, by rw [unhide Hl0]; exact unhide HO, unhide HB, unhide HT, unhide HK⟩
  case round =>
    clear HO HB HT HK
    obtain ⟨y, cp, qo, hy, rfl, hO, hB, hT, hK⟩ := hrel
    by_cases hly : y < c
    · have q2 : (y : Int) < (c : Int) := by omega
      obtain ⟨⟨ho1, ho2⟩, ho3, ho4, ho5, ho6⟩ := id hO
      obtain ⟨hl4, c0, c1⟩ := hB
      have bn := bnew wr (.cells #[.int .i64 u] 3)
      have Lr := hide (own_lit (B := W0.heap.size) (e := 3) (z := 1) (k := 1) wr #[.int .i64 u] ho6.size (by unfold maxLen; omega) rfl)
      have HO2 := hide (hO.keep bn)
      have HX2 := hide (B2.keep ⟨hl4, c0, c1⟩ bn)
      have HT2 := hide (hT.kept (S := fun _ => False) (Kept.of bn) hl4 (fun q => q))
      have HK2 := hide (hK.below bn)
      have hcw := keepC bn ho2.lt ho3
      have Hone := hide (zsV_one u)
      have Hr := hide (unhide Hap y)
      clear hO hT hK ho1 ho2 ho5 ho6 hl4 bn
      go_wp2_with (at_builtin; refine wl_app rfl rfl Tryd.underlying32 info3 rfl (by decide) (B := W0.heap.size) (C := W0.heap.size) (n := k + y) (m := 1) rfl rfl (unhide HO2).2.2.2.1 (unhide Lr) (unhide Hone) (by unfold maxLen; omega) (by omega) (unhide HO2).2.2.2.2.size ?_)
      intro v5 w5 ho5 hg5 he5
      obtain ⟨q5, cap5, rfl⟩ := own_form ho5
      have HS := hide ((unhide HO2).step (T' := T ++ List.replicate (y + 1) u) (by rw [unhide Hr]; exact ho5) hg5)
      have hne1 : ¬ Ch ob (wr.alloc (.cells #[.int .i64 u] 3)) n1 := by
        rintro (e | e)
        · exact unhide Hsz e.symm
        · exact tg_not e (by decide) (unhide HT2)
      have f5 : w5.frozen? ⟨ob, 0, none⟩ = false := (grown_kept (S := fun i => (Value.slice qo (k + y) cp).ownBlock = some i) hg5 (fun r e => .inl e)).froz (unhide HO2).1.2.lt (unhide HO2).ne (unhide HO2).2.2.1
      have c5 : w5.cell? ⟨ob, 0, none⟩ = some (.slice qo (k + y) cp) := (grown_kept (S := fun i => (Value.slice qo (k + y) cp).ownBlock = some i) hg5 (fun r e => .inl e)).cell (unhide HO2).1.2.lt (unhide HO2).ne (unhide HO2).2.1
      have HX3 := hide (show B2 (w5.setCell ⟨ob, 0, none⟩ (.slice q5 (k + y + 1) cap5)) n1 u (c : Int) from ⟨Nat.lt_of_lt_of_le (unhide HX2).1 (unhide HS).2.size, (unhide HS).2.cell (unhide HX2).1 hne1 (unhide HX2).2.1, (unhide HS).2.cell (unhide HX2).1 hne1 (unhide HX2).2.2⟩)
      have HT3 := hide ((unhide HT2).kept (unhide HS).2 (unhide HX2).1 hne1)
      have HK3 := hide (Ch.trans (unhide HK2) ((unhide HS).2.more (T := Ch ob (wr.alloc (.cells #[.int .i64 u] 3))) (fun i e => .inl e)))
      clear ho5 hg5 he5 Lr Hone hne1 HX2 HT2 HK2 HO2 c0 c1 hcw ho3 ho4
      go_wp2
      go_roundw
      case rel => exact ⟨y + 1, cap5, q5, by omega, by go_num, (unhide HS).1, unhide HX3, unhide HT3, unhide HK3⟩
      case measure => simp [intOf]; omega
    · obtain rfl : y = c := by omega
      have cl : ¬ ((y : Int) < (y : Int)) := by omega
      have HE := hide (unhide Hfin wr qo cp (by rw [unhide Hln]; exact hO) hK)
      obtain ⟨hl4, c0, c1⟩ := hB
      clear hO hK hT
      go_wp2
      exact bodyPost_ret (v := .tuple #[]) (by simp [results, Tryd.results27, go_sem]) rfl (unhide HE)
end Go.Proofs.YtbnjjkanokmakaaDoor
