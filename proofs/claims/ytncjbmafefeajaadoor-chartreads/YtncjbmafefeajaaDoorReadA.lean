/-
  What readGrid and readSigns of package chart answer.
-/
import Derived.Test.YtncjbmafefeajaaDoorColour
import Derived.Test.YtncjbmafefeajaaDoorSigns
namespace Go.Proofs.YtncjbmafefeajaaDoor
open Go.RowKit

/-- the tables that reading looks into -/
def Tabs (W : World) : Prop := Tab W ∧ Lib.Utf8Tabs 1 2 W
theorem Tabs.keep {W w1 : World} (h : Tabs W) (hb : Below W.heap.size W w1) : Tabs w1 := ⟨h.1.keep hb, utf8_keep h.2 hb⟩

def GridIs (s : ByteArray) (W : World) (g a : Int) (ok : Bool) : Prop := Calls Tryd.prog 14 #[.string s] W fun e w' => e = .returned (.tuple #[.int .i64 g, .int .i64 a, .bool ok]) ∧ Below W.heap.size W w'

set_option maxHeartbeats 1000000 in
theorem readGrid_none (s : ByteArray) (W : World) (hT : Tabs W) (hg : grid (Lib.decodeGo s).1 = 0) : GridIs s W 0 0 false := by
  have HD := hide (Tryd.utf8_DecodeRuneInString s W hT.2)
  have HG := hide (fun W => gridOf_any (Lib.decodeGo s).1 W)
  rw [hg] at HG
  clear hT hg
  generalize (Lib.decodeGo s).1 = r at *
  generalize (Lib.decodeGo s).2 = n at *
  unfold GridIs
  go_enter Tryd.func14, Tryd.ntmps14
  go_wp2_with fail
  refine (unhide HD).mono ?_
  rintro e w1 ⟨rfl, hb⟩
  go_wp2_with fail
  refine (unhide HG _).mono ?_
  rintro e w2 ⟨rfl, rfl⟩
  go_wp2
  exact bodyPost_ret (v := .tuple #[.int .i64 0, .int .i64 0, .bool false]) (by simp [results, Tryd.results14, go_sem]) rfl ⟨rfl, hb⟩

set_option maxHeartbeats 1000000 in
theorem readGrid_line (s : ByteArray) (W : World) (hT : Tabs W) (g : Int) (n : Nat) (hn : (Lib.decodeGo s).2 = n) (hg : grid (Lib.decodeGo s).1 = g) (h46 : g = 4 ∨ g = 6) (l : Bool) (hl : lf s n = l) : GridIs s W (if l then g else 0) (if l then n + 1 else n) l := by
  have hle := (decoded_le s).2
  have HD := hide (Tryd.utf8_DecodeRuneInString s W hT.2)
  have HG := hide (fun W => gridOf_any (Lib.decodeGo s).1 W)
  have HL := hide (fun W => lineEnds_any s n W)
  rw [hg] at HG
  rw [hl] at HL
  rw [hn] at HD hle
  clear hT hg hn
  generalize (Lib.decodeGo s).1 = r at *
  unfold GridIs
  rcases h46 with rfl | rfl
  all_goals
    cases l
    all_goals
      go_enter Tryd.func14, Tryd.ntmps14
      go_wp2_with fail
      refine (unhide HD).mono ?_
      rintro e w1 ⟨rfl, hb⟩
      go_wp2_with fail
      refine (unhide HG _).mono ?_
      rintro e w2 ⟨rfl, rfl⟩
      go_wp2_with fail
      refine (unhide HL _).mono ?_
      rintro e w3 ⟨rfl, rfl⟩
      go_wp2
      first
        | exact bodyPost_ret (v := .tuple #[.int .i64 0, .int .i64 n, .bool false]) (by simp [results, Tryd.results14, go_sem]) rfl ⟨rfl, hb⟩
        | exact bodyPost_ret (v := .tuple #[.int .i64 4, .int .i64 (n + 1), .bool true]) (by simp [results, Tryd.results14, go_sem]) rfl ⟨rfl, hb⟩
        | exact bodyPost_ret (v := .tuple #[.int .i64 6, .int .i64 (n + 1), .bool true]) (by simp [results, Tryd.results14, go_sem]) rfl ⟨rfl, hb⟩

/-! ### signs in a row -/
def dg (s : ByteArray) (p : Nat) : Nat × Nat := Lib.decodeGo (s.extract p s.size)
/-- the sign at a place: its colour, and how many bytes it has -/
def signAt (s : ByteArray) (p : Nat) : Option (Int × Nat) := match grp (dg s p).1 with | some c => some (c, (dg s p).2) | none => none
/-- signs one behind the other, from one place to another -/
def Pre (s : ByteArray) (a : Nat) (cs : List Int) (p : Nat) : Prop := ∀ P : List Int → Nat → Prop, P [] a → (∀ (cs : List Int) (p : Nat) (c : Int) (n : Nat), P cs p → signAt s p = some (c, n) → P (cs ++ [c]) (p + n)) → P cs p
theorem Pre.nil {s : ByteArray} {a : Nat} : Pre s a [] a := fun _ h _ => h
theorem Pre.snoc {s : ByteArray} {a : Nat} {cs : List Int} {p : Nat} {c : Int} {n : Nat} (h : Pre s a cs p) (k : signAt s p = some (c, n)) : Pre s a (cs ++ [c]) (p + n) := fun P h0 h1 => h1 _ _ _ _ (h P h0 h1) k
theorem Pre.ind {s : ByteArray} {a : Nat} {motive : (cs : List Int) → (p : Nat) → Pre s a cs p → Prop} (nil : motive [] a Pre.nil)
    (snoc : ∀ {cs : List Int} {p : Nat} {c : Int} {n : Nat} (h1 : Pre s a cs p) (h2 : signAt s p = some (c, n)), motive cs p h1 → motive (cs ++ [c]) (p + n) (Pre.snoc h1 h2)) {cs : List Int} {p : Nat} (h : Pre s a cs p) : motive cs p h := by
  have : ∃ h', motive cs p h' := h (fun cs p => ∃ h', motive cs p h') ⟨_, nil⟩ (fun _ _ _ _ ⟨h1, m⟩ h2 => ⟨_, snoc h1 h2 m⟩)
  obtain ⟨_, m⟩ := this
  exact m
theorem signAt_range (s : ByteArray) (p : Nat) (c : Int) (n : Nat) (h : signAt s p = some (c, n)) : 1 ≤ n ∧ p + n ≤ s.size ∧ 0 ≤ c ∧ c ≤ 61 := by
  unfold signAt at h
  split at h
  · rename_i c' hc
    simp at h
    obtain ⟨rfl, rfl⟩ := h
    have hr : (dg s p).1 ≠ 65533 := fun e => by rw [e] at hc; simp [grp] at hc
    have hc2 : 0 ≤ c' ∧ c' ≤ 61 := by
      unfold grp at hc
      repeat' split at hc
      all_goals (first | (simp at hc; omega) | cases hc)
    refine ⟨?_, ?_, hc2⟩
    · unfold dg Lib.decodeGo at hr ⊢
      split at hr
      · exact absurd rfl hr
      · rename_i hz
        rw [if_neg hz, Lib.decode_at]
        unfold Lib.decodeN
        repeat' split
        all_goals simp
    · unfold dg Lib.decodeGo at hr ⊢
      split at hr
      · exact absurd rfl hr
      · rename_i hz
        rw [if_neg hz]
        have hsz : (s.extract p s.size).size = s.size - p := by simp [ByteArray.size_extract]
        rw [hsz] at hz
        have : (Utf8.decode (s.extract p s.size) 0).2 ≤ s.size - p := by
          rw [Lib.decode_at, hsz]
          unfold Lib.decodeN
          repeat' split
          all_goals (simp only; omega)
        omega
  · cases h
theorem Pre.range {s : ByteArray} {a p : Nat} {cs : List Int} (h : Pre s a cs p) : cs.length + a ≤ p ∧ (a ≤ s.size → p ≤ s.size) ∧ ∀ c ∈ cs, 0 ≤ c ∧ c ≤ 61 := by
  induction h using Pre.ind with
  | nil => simp
  | snoc h1 h2 ih =>
    have := signAt_range _ _ _ _ h2
    refine ⟨by simp; omega, fun _ => by omega, fun c hc => ?_⟩
    simp at hc
    rcases hc with hc | rfl
    · exact ih.2.2 c hc
    · exact this.2.2
def intsV (cs : List Int) : List Value := cs.map fun c => Value.int .i64 c
theorem info3 : (Tryd.prog.info? 3).map (fun i => (i.zero, i.size, i.bytes)) = some (some (.int .i64 0), 1, 8) := by kernel_rfl

set_option maxHeartbeats 4000000 in
set_option maxRecDepth 100000 in
theorem readSigns_any (s : ByteArray) (a : Nat) (W : World) (hs : s.size ≤ 65536) (ha : a ≤ s.size) (hT : Tabs W) :
    Calls Tryd.prog 20 #[.string s, .int .i64 a] W fun e w' => ∃ v cs p, e = .returned (.tuple #[v, .int .i64 (p : Nat)]) ∧ Pre s a cs p ∧ signAt s p = none ∧ w'.ownsRow W.heap.size 3 1 v cs.length (intsV cs) ∧ Below W.heap.size W w' := by
  obtain ⟨i0, hi, hz0, hz1, hz2⟩ := info_parts info3
  have HT := hide hT
  clear hT
  go_enter Tryd.func20, Tryd.ntmps20
  go_wp2
  go_loopw [1, 6] (fun i v wr => ∃ (p : Nat) (cs : List Int), i = .int .i64 p ∧ Pre s a cs p ∧ wr.ownsRow W.heap.size 3 1 v cs.length (intsV cs) ∧ Below W.heap.size W wr) (fun i _ _ => s.size - (intOf i).toNat)
  case atStart => exact ⟨a, [], rfl, .nil, World.ownsRow_nil _ _ _ _, Below.refl _ _⟩
  case round =>
    obtain ⟨p, cs, rfl, hpre, hown, hbel⟩ := hrel
    have hr := hpre.range
    have hp := hr.2.1 ha
    have hcl := hr.1
    have Hpre := hide hpre
    clear hr hpre
    have HC := hide (colour_any (s.extract p s.size) wr ((unhide HT).keep hbel).1 ((unhide HT).keep hbel).2)
    cases hS : signAt s p with
    | none =>
      have hcol : colP (Lib.decodeGo (s.extract p s.size)).1 (Lib.decodeGo (s.extract p s.size)).2 = (0, 0) := by
        unfold signAt dg at hS
        unfold colP
        split at hS
        · cases hS
        · rename_i hg; rw [hg]
      rw [hcol] at HC
      have HS := hide hS
      clear hS hcol
      go_wp2_with fail
      refine (unhide HC).mono ?_
      rintro e w1 ⟨rfl, hb⟩
      have own1 := own_keep hown hb
      have S1 := btrans hbel hb
      clear hown hbel hb HC
      go_wp2
      refine bodyPost_ret (v := .tuple #[_, .int .i64 p]) (by simp [results, Tryd.results20, go_sem]) rfl ⟨_, cs, p, rfl, unhide Hpre, unhide HS, own1, S1⟩
    | some q =>
      obtain ⟨c, n⟩ := q
      have hrg := signAt_range s p c n hS
      have hcol : colP (Lib.decodeGo (s.extract p s.size)).1 (Lib.decodeGo (s.extract p s.size)).2 = (c, (n : Int)) := by
        unfold signAt dg at hS
        unfold colP
        split at hS
        · rename_i c' hg
          simp at hS
          rw [hg, hS.1, hS.2]
        · cases hS
      rw [hcol] at HC
      have HS := hide hS
      clear hS hcol
      have hn0 : ((n : Int) == 0) = false := by simp; omega
      go_wp2_with fail
      refine (unhide HC).mono ?_
      rintro e w1 ⟨rfl, hb⟩
      have own1 := own_keep hown hb
      have S1 := btrans hbel hb
      clear hown hbel hb HC
      have hs1 := S1.size
      go_wp2_with (at_builtin; refine wpList_append_own _ rfl _ _ 25 rfl W.heap.size 3 i0 (.int .i64 0) 1 8 Tryd.underlying25 hi hz0 hz1 hz2 rfl (by decide) _ _ _ rfl (own1.alloc _) ⟨w1.heap.size, 0, none⟩ 1 1 [.int .i64 c] rfl rfl ?at_ ?one_ ?max_ ?fit_ ?base_ ?_)
      case base_ => rw [show (w1.alloc _).heap.size = w1.heap.size + 1 by simp]; omega
      case fit_ => omega
      case max_ => unfold maxLen; omega
      case one_ => exact fun u hu => by rw [List.mem_singleton.1 hu]; rfl
      case at_ =>
        intro j u hj
        cases j with
        | succ j => simp at hj
        | zero =>
          have hu : Value.int .i64 c = u := Option.some.inj hj
          rw [← hu]
          simp [Addr.add]
      intro v' w2 hown' hgrow _
      have S2 := (S1.alloc (by omega) _).grown hgrow (by simp; omega) (fun k hk => (own1.lt k hk).1)
      go_wp2
      go_roundw
      case rel => exact ⟨p + n, cs ++ [c], by go_num, .snoc (unhide Hpre) (unhide HS), by simpa [intsV] using hown', S2⟩
      case measure => simp [intOf]; omega
end Go.Proofs.YtncjbmafefeajaaDoor
