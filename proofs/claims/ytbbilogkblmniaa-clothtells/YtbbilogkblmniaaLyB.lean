/-
  sheets: all sheets, by their first strands.
-/
import Derived.Test.YtbbilogkblmniaaLyA
import Derived.Test.YtbbilogkblmniaaStE
import Derived.Deep.Onto
namespace Go.Proofs.Ytbbilogkblmniaa
open Go.RowKit

theorem info25 : (Try.prog.info? 25).map (fun i => (i.zero, i.size, i.bytes)) = some (some (.slice none 0 0), 1, 24) := by kernel_rfl
theorem tag_ne {V : World} {B1 B2 n1 n2 z1 z2 : Nat} {t1 t2 : TypeId} {v1 v2 : Value} {xs1 xs2 : List Value} (h1 : V.ownsRow B1 t1 z1 v1 n1 xs1) (h2 : V.ownsRow B2 t2 z2 v2 n2 xs2) (ht : t1 ≠ t2) : v1.ownBlock = none ∨ v1.ownBlock ≠ v2.ownBlock := by
  rcases h1.2 with ⟨e1, _⟩ | ⟨g1, c1, cur1, e1, _, k1, _⟩
  · exact .inl (by rw [e1]; rfl)
  · rcases h2.2 with ⟨e2, _⟩ | ⟨g2, c2, cur2, e2, _, k2, _⟩
    · exact .inr (by rw [e1, e2]; simp [Value.ownBlock])
    · refine .inr fun e => ?_
      rw [e1, e2] at e
      simp [Value.ownBlock] at e
      subst e
      rw [k1] at k2
      cases k2
      exact ht rfl
/-- a sheet lies there -/
def Sh (V : World) (B : Nat) (E : El) (f : Nat → Bool) (w h s : Nat) : Prop := (∃ g, E.q s = some ⟨g, 0, none⟩) ∧ E.l s = (shL f w h s).length ∧ V.ownsRow B 3 1 (E.v s) (E.l s) (lsV (shL f w h s))
theorem Sh.keep {V V' : World} {B : Nat} {E : El} {f : Nat → Bool} {w h s : Nat} (k : Sh V B E f w h s) (hb : Below V.heap.size V V') : Sh V' B E f w h s := ⟨k.1, k.2.1, own_keep k.2.2 hb⟩
theorem Sh.grown {V V' : World} {B B2 n2 : Nat} {E : El} {f : Nat → Bool} {w h s : Nat} {v2 : Value} {xs2 : List Value} (k : Sh V B E f w h s) (h2 : V.ownsRow B2 25 1 v2 n2 xs2) (hg : V.grownBy V' v2.ownBlock) : Sh V' B E f w h s := ⟨k.1, k.2.1, k.2.2.kept hg (tag_ne k.2.2 h2 (by decide))⟩
/-- one sheet more -/
def El.put (E : El) (x : Nat) (q : Option Addr) (l c : Nat) : El := ⟨fun s => if s = x then q else E.q s, fun s => if s = x then l else E.l s, fun s => if s = x then c else E.c s⟩
theorem El.put_at (E : El) (x : Nat) (q : Option Addr) (l c : Nat) : (E.put x q l c).v x = .slice q l c := by simp [El.put, El.v]
theorem El.put_other (E : El) (x : Nat) (q : Option Addr) (l c s : Nat) (h : s ≠ x) : (E.put x q l c).q s = E.q s ∧ (E.put x q l c).l s = E.l s ∧ (E.put x q l c).c s = E.c s := by simp [El.put, h]
theorem Sh.put {V : World} {B : Nat} {E : El} {f : Nat → Bool} {w h s : Nat} (k : Sh V B E f w h s) (x : Nat) (q : Option Addr) (l c : Nat) (hne : s ≠ x) : Sh V B (E.put x q l c) f w h s := by
  obtain ⟨e1, e2, e3⟩ := El.put_other E x q l c s hne
  unfold Sh El.v
  rw [e1, e2, e3]
  exact k
theorem map_put (E : El) (x : Nat) (q : Option Addr) (l c : Nat) (L : List Nat) (h : ∀ s, s ∈ L → s ≠ x) : (L.map fun s => (E.put x q l c).v s) = L.map fun s => E.v s := by
  apply List.map_congr_left
  intro s hs
  obtain ⟨e1, e2, e3⟩ := El.put_other E x q l c s (h s hs)
  unfold El.v
  rw [e1, e2, e3]

def SheetsIs (W : World) (ob N cp : Nat) (f : Nat → Bool) (w h : Nat) : Prop := Calls Try.prog 22 #[.slice (some ⟨ob, 0, none⟩) N cp] W fun e V => ∃ (E : El) (q : Option Addr) (c len : Nat), e = .returned (.slice q len c) ∧ len = (fsL f w h).length ∧ V.ownsRow W.heap.size 25 1 (.slice q len c) len ((fsL f w h).map fun s => E.v s) ∧ (∀ s, s ∈ fsL f w h → Sh V W.heap.size E f w h s) ∧ Below W.heap.size W V

set_option maxRecDepth 100000 in
set_option maxHeartbeats 4000000 in
theorem sheets_any {W : World} {ob N cp : Nat} {f : Nat → Bool} {w h : Nat} (k : Ovs W ob N f w h) (hN : N = w + h) (hN128 : N ≤ 128) : SheetsIs W ob N cp f w h := by
  unfold SheetsIs
  obtain ⟨i3, hi3, hy0, hy1, hy2⟩ := info_parts info25
  have HK := hide k
  have HN := hide hN
  clear k hN
  go_enter Try.func22, Try.ntmps22
  go_wp2
  go_loopw [3, 8] (fun v i wr => ∃ (E : El) (x len c : Nat) (q : Option Addr), x ≤ N ∧ i = .int .i64 x ∧ v = .slice q len c ∧ Hid (len = (fsP f w h x).length) ∧ wr.ownsRow W.heap.size 25 1 (.slice q len c) len ((fsP f w h x).map fun s => E.v s) ∧ (∀ s, s ∈ fsP f w h x → Sh wr W.heap.size E f w h s) ∧ Below W.heap.size W wr) (fun _ i _ => N - (intOf i).toNat)
  case atStart => exact ⟨⟨fun _ => none, fun _ => 0, fun _ => 0⟩, 0, 0, 0, none, Nat.zero_le _, rfl, rfl, rfl, World.ownsRow_nil _ _ _ _, fun s hs => by simp [fsP] at hs, Below.refl _ _⟩
  case round =>
    obtain ⟨E, x, len, c, q, hx, rfl, rfl, Hlen, hown, hsh, hb⟩ := hrel
    have HO := hide hown
    have Hsh := hide hsh
    have Hb := hide hb
    have hlen : len ≤ 128 := by rw [unhide Hlen]; have := fsP_len f w h x; omega
    clear hown hsh hb
    by_cases hlt : x < N
    · have q2 : (x : Int) < (N : Int) := by omega
      have q3 : (0 : Int) ≤ (x : Int) := by omega
      have HC := hide (sheetOf_any (cp := cp) ((unhide HK).keep (unhide Hb)) (unhide HN) hN128 x hlt)
      have hpos : 0 < (shL f w h x).length := shL_pos (by rw [← unhide HN]; exact hlt)
      have Hsu := hide (fsP_succ f w h x)
      go_wp2_with fail
      refine (unhide HC).mono ?_
      rintro e w1 ⟨q1, c1, len1, rfl, hl1, hown1, hb1⟩
      have r1 := (own_nr hown1 hl1).2 0 hpos
      have hp1 : 0 < len1 := by omega
      have g1 : (0 : Int) < (len1 : Int) := by omega
      have HO1 := hide (hown1.mono (base' := W.heap.size) (unhide Hb).size)
      have HO := hide (own_keep (unhide HO) hb1)
      have Hsh := hide (fun s hs => (unhide Hsh s hs).keep hb1)
      have Hb := hide (btrans (unhide Hb) hb1)
      have Hl1 := hide hl1
      have Hfs := hide (show fsB f w h x = (((shL f w h x).getD 0 0 : Nat) == x) from rfl)
      generalize (shL f w h x).getD 0 0 = z at *
      clear hown1 hb1 hl1 HC hpos
      by_cases hz : z = x
      · have hz' : ((z : Int) == (x : Int)) = true := by simp [hz]
        have Hsu2 := hide (show fsP f w h (x + 1) = fsP f w h x ++ [x] by rw [unhide Hsu, unhide Hfs]; simp [hz])
        have hO1 := unhide HO
        have hb2 := unhide Hb
        have hsz := hb2.size
        clear hz Hsu Hfs
        go_wp2_with (at_builtin; refine wpList_append_own _ rfl _ _ 32 rfl W.heap.size 25 i3 (.slice none 0 0) 1 24 Try.underlying32 hi3 hy0 hy1 hy2 rfl (by decide) _ _ _ rfl (hO1.alloc _) ⟨w1.heap.size, 0, none⟩ 1 1 [.slice (some ⟨q1, 0, none⟩) len1 c1] rfl rfl (cell_one_new _ _ _) (by simp [Value.oneCell']) (by unfold maxLen; omega) (by omega) (by simp; omega) ?_)
        intro v' w4 hown' hgrow _
        have S6 := hide ((hb2.alloc hsz (.cells #[.slice (some ⟨q1, 0, none⟩) len1 c1] 25)).grown hgrow (by simp; omega) (fun k hk => (hO1.lt k hk).1))
        have B1 := bal (o := .cells #[.slice (some ⟨q1, 0, none⟩) len1 c1] 25) (Below.refl w1.heap.size w1)
        have Hnew := hide (show Sh w4 W.heap.size (E.put x (some ⟨q1, 0, none⟩) len1 c1) f w h x from
          ⟨⟨q1, by simp [El.put]⟩, by simp [El.put]; exact unhide Hl1, by
            rw [El.put_at, show (E.put x (some ⟨q1, 0, none⟩) len1 c1).l x = len1 by simp [El.put]]
            exact (own_keep (unhide HO1) B1).kept hgrow (tag_ne (own_keep (unhide HO1) B1) (hO1.alloc _) (by decide))⟩)
        have Hold := hide (show ∀ s, s ∈ fsP f w h x → Sh w4 W.heap.size (E.put x (some ⟨q1, 0, none⟩) len1 c1) f w h s from fun s hs =>
          (((unhide Hsh s hs).keep B1).grown (hO1.alloc _) hgrow).put x _ _ _ (by have := (mem_fsP.1 hs).1; omega))
        obtain ⟨q2'', cap', rfl⟩ := own_form hown'
        have HO := hide hown'
        clear hO1 hown' hgrow hb2 hsz B1 r1
        go_wp2
        go_roundw
        case rel =>
          refine ⟨E.put x (some ⟨q1, 0, none⟩) len1 c1, x + 1, len + 1, cap', q2'', by omega, by go_num, rfl, (by rw [unhide Hsu2, unhide Hlen]; simp : len + 1 = (fsP f w h (x + 1)).length), ?_, ?_, unhide S6⟩
          · rw [unhide Hsu2, List.map_append, map_put _ _ _ _ _ _ (fun s hs => by have := (mem_fsP.1 hs).1; omega), List.map_cons, El.put_at, List.map_nil]
            exact unhide HO
          · intro s hs
            rw [unhide Hsu2, List.mem_append] at hs
            rcases hs with hs | hs
            · exact unhide Hold s hs
            · simp at hs; subst hs; exact unhide Hnew
        case measure => simp [intOf]; omega
      · have hz' : ((z : Int) == (x : Int)) = false := by simp; omega
        have Hsu2 := hide (show fsP f w h (x + 1) = fsP f w h x by rw [unhide Hsu, unhide Hfs]; simp [hz])
        clear hz Hsu Hfs
        go_wp2
        go_roundw
        case rel => exact ⟨E, x + 1, len, c, q, by omega, by go_num, rfl, (by rw [unhide Hsu2]; exact unhide Hlen : len = (fsP f w h (x + 1)).length), by rw [unhide Hsu2]; exact unhide HO, by rw [unhide Hsu2]; exact unhide Hsh, unhide Hb⟩
        case measure => simp [intOf]; omega
    · obtain rfl : N = x := by omega
      have cl : ¬ ((N : Int) < (N : Int)) := by omega
      have Hall := hide (show fsP f w h N = fsL f w h by rw [unhide HN]; rfl)
      go_wp2
      go_ret
      exact ⟨E, q, c, len, rfl, by rw [← unhide Hall]; exact unhide Hlen, by rw [← unhide Hall]; exact unhide HO, by rw [← unhide Hall]; exact unhide Hsh, unhide Hb⟩
end Go.Proofs.Ytbbilogkblmniaa
