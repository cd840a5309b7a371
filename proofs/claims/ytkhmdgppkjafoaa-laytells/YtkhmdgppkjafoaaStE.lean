/-
  The stable sort, whole: stableCmpFunc and SortStableFunc.
-/
import Derived.Test.YtkhmdgppkjafoaaStD
namespace Go.Proofs.Ytkhmdgppkjafoaa
open Go.RowKit

def StIs (F : Nat) (E : El) (D : Nat → Prop) (K : Nat → Nat) (W0 : World) (b n : Nat) (args : Array Value) (g0 : Nat → Nat) (V : World) : Prop := Calls Try.prog F args V fun x V' => x = .returned (.tuple #[]) ∧ ∃ g, SW E D W0 b n g V' ∧ Bk K g0 0 n g

set_option maxRecDepth 100000 in
set_option maxHeartbeats 8000000 in
theorem stable_any {E : El} {D : Nat → Prop} {K : Nat → Nat} {W0 V : World} {b n cap B : Nat} {g0 : Nat → Nat} (hC : CmpIs E D K B W0 b) (h : SW E D W0 b n g0 V) (hn : n ≤ 256) (hv : ∀ i j, i < j → j < n → g0 i < g0 j) :
    StIs 24 E D K W0 b n #[slV b n cap, .int .i64 n, cpV B] g0 V := by
  unfold StIs
  have Hh := hide h
  have Hv := hide hv
  have HIns := hide (fun (a e : Nat) (g : Nat → Nat) (wr : World) (hS : SW E D W0 b n g wr) (h1 : a ≤ e) (h2 : e ≤ n) (h3 : ∀ i j, a ≤ i → i < j → j < e → g i < g j) => ins_any (cap := cap) hC hS a e h1 h2 hn h3)
  have HSym := hide (fun (a m e : Nat) (g : Nat → Nat) (wr : World) (hS : SW E D W0 b n g wr) (h1 : a < m) (h2 : m < e) (h3 : e ≤ n) (k1 : Up K a m g) (k2 : Up K m e g) (k3 : ∀ i j, a ≤ i → i < m → m ≤ j → j < e → g i < g j) => sym_any (cap := cap) hC hn (e - a + 1) a m e g wr (by omega) h1 h2 h3 hS k1 k2 k3)
  clear h hC hv
  go_enter Try.func24, Try.ntmps24
  go_wp2
  go_loopw [7, 8] (fun v u wr => ∃ (t a : Nat) (g : Nat → Nat), v = .int .i64 a ∧ u = .int .i64 ((a + 20 : Nat) : Int) ∧ a ≤ n ∧ Hid (a = t * 20 ∧ Fi K g0 n 20 t g) ∧ SW E D W0 b n g wr) (fun v _ _ => n - (intOf v).toNat)
  case atStart => exact ⟨0, 0, g0, rfl, rfl, Nat.zero_le _, (⟨rfl, Fi.start K g0 n 20⟩ : 0 = 0 * 20 ∧ Fi K g0 n 20 0 g0), unhide Hh⟩
  case round =>
    clear Hh
    obtain ⟨t, a, g, rfl, rfl, han, Hfi, hS⟩ := hrel
    obtain ⟨ae, hae⟩ : ∃ x : Nat, x = a + 20 := ⟨_, rfl⟩
    rw [← hae]
    by_cases hlt : ae ≤ n
    · have q0 : (ae : Int) ≤ (n : Int) := by omega
      have HC := hide (unhide HIns a ae g wr hS (by omega) hlt (fun i j i1 i2 j1 => by
        have e := unhide Hfi
        rw [e.2.2.1 i (by omega), e.2.2.1 j (by omega)]
        exact unhide Hv i j i2 (by omega)))
      obtain ⟨af, haf⟩ : ∃ x : Nat, x = ae + 20 := ⟨_, rfl⟩
      have z1 : (ae : Int) + 20 = (af : Int) := by omega
      have Hnums := hide (show ae = a + 20 ∧ af = ae + 20 from ⟨hae, haf⟩)
      clear hae haf hS
      go_wp2_with fail
      refine (unhide HC).mono ?_
      rintro x w1 ⟨rfl, g', hS1, ho, hu⟩
      have HS1 := hide hS1
      have Hfi2 := hide (show ae = (t + 1) * 20 ∧ Fi K g0 n 20 (t + 1) g' by
        have e := unhide Hfi
        have k := unhide Hnums
        rw [k.1, e.1] at ho hu
        exact ⟨by omega, e.2.next (by omega) ho hu⟩)
      clear hS1 ho hu HC
      go_wp2
      go_roundw
      case rel => exact ⟨t + 1, ae, g', rfl, by rw [(unhide Hnums).2], hlt, unhide Hfi2, unhide HS1⟩
      case measure => have := unhide Hnums; simp [intOf]; omega
    · have q0 : ¬ ((ae : Int) ≤ (n : Int)) := by omega
      have HC := hide (unhide HIns a n g wr hS han (Nat.le_refl _) (fun i j i1 i2 j1 => by
        have e := unhide Hfi
        rw [e.2.2.1 i (by omega), e.2.2.1 j (by omega)]
        exact unhide Hv i j i2 j1))
      have Hnums := hide (show ae = a + 20 from hae)
      clear hae hS
      go_wp2_with fail
      refine (unhide HC).mono ?_
      rintro x w1 ⟨rfl, g', hS1, ho, hu⟩
      have HS1 := hide hS1
      have HLv := hide (show Lv K g0 n 20 g' by
        have e := unhide Hfi
        have k := unhide Hnums
        rw [e.1] at ho hu
        exact e.2.last (by omega) ho hu)
      clear hS1 ho hu HC Hfi Hnums q0 hlt han
      go_wp2
      go_loopw [6] (fun v wr => ∃ (bs : Nat) (g : Nat → Nat), v = .int .i64 bs ∧ 0 < bs ∧ bs ≤ 512 ∧ Hid (Lv K g0 n bs g) ∧ SW E D W0 b n g wr) (fun v _ => 512 - (intOf v).toNat)
      case atStart => exact ⟨20, g', rfl, by omega, by omega, unhide HLv, unhide HS1⟩
      case round =>
        clear HLv HS1
        obtain ⟨bs, g, rfl, hb0, hb1, HL, hS⟩ := hrel
        by_cases hlt : bs < n
        · have q0 : (bs : Int) < (n : Int) := by omega
          obtain ⟨b2, hb2⟩ : ∃ x : Nat, x = 2 * bs := ⟨_, rfl⟩
          have z1 : 2 * (bs : Int) = (b2 : Int) := by omega
          have z2 : (bs : Int) * 2 = (b2 : Int) := by omega
          have HMd := hide (Md.start (unhide HL))
          have Hb2 := hide hb2
          have hb3 : b2 ≤ 512 := by omega
          have HS := hide hS
          clear hb2 hS HL
          go_wp2
          go_loopw [7, 8] (fun v u wr => ∃ (t a : Nat) (g : Nat → Nat), v = .int .i64 a ∧ u = .int .i64 ((a + b2 : Nat) : Int) ∧ a ≤ n ∧ Hid (a = t * (2 * bs) ∧ Md K g0 n bs t g) ∧ SW E D W0 b n g wr) (fun v _ _ => n - (intOf v).toNat)
          case atStart => exact ⟨0, 0, g, rfl, by rw [Nat.zero_add], Nat.zero_le _, (⟨by simp, unhide HMd⟩ : 0 = 0 * (2 * bs) ∧ Md K g0 n bs 0 g), unhide HS⟩
          case round =>
            clear HS HMd
            obtain ⟨t, a, g, rfl, rfl, han, Hmd, hS⟩ := hrel
            obtain ⟨ae, hae⟩ : ∃ x : Nat, x = a + b2 := ⟨_, rfl⟩
            obtain ⟨am, ham⟩ : ∃ x : Nat, x = a + bs := ⟨_, rfl⟩
            rw [← hae]
            have z3 : (a : Int) + (bs : Int) = (am : Int) := by omega
            have Hb2' := unhide Hb2
            by_cases hle : ae ≤ n
            · have q1 : (ae : Int) ≤ (n : Int) := by omega
              have Hpre := hide (show Bk K g0 a am g ∧ Bk K g0 am ae g by
                have e := unhide Hmd
                have k := e.2.pre (by rw [← e.1]; omega)
                rw [← e.1] at k
                rw [ham, hae, Hb2']
                exact k)
              have HC := hide (unhide HSym a am ae g wr hS (by omega) (by omega) hle (unhide Hpre).1.1 (unhide Hpre).2.1 (Bk.cross hle (unhide Hv) (unhide Hpre).1 (unhide Hpre).2))
              obtain ⟨af, haf⟩ : ∃ x : Nat, x = ae + b2 := ⟨_, rfl⟩
              have z4 : (ae : Int) + (b2 : Int) = (af : Int) := by omega
              have Hnums := hide (show ae = a + b2 ∧ af = ae + b2 ∧ b2 = 2 * bs from ⟨hae, haf, Hb2'⟩)
              clear hae haf ham hS Hb2'
              go_wp2_with fail
              refine (unhide HC).mono ?_
              rintro x w1 ⟨rfl, g', hS1, ho, hu⟩
              have HS1 := hide hS1
              have Hmd2 := hide (show ae = (t + 1) * (2 * bs) ∧ Md K g0 n bs (t + 1) g' by
                have e := unhide Hmd
                have k := unhide Hnums
                have k0 : ae = a + 2 * bs := by omega
                rw [k0, e.1] at ho hu
                exact ⟨by rw [mstep]; omega, e.2.next (by omega) ho hu⟩)
              clear hS1 ho hu HC Hpre
              go_wp2
              go_roundw
              case rel => exact ⟨t + 1, ae, g', rfl, by rw [(unhide Hnums).2.1], hle, unhide Hmd2, unhide HS1⟩
              case measure => have := unhide Hnums; simp [intOf]; omega
            · have q1 : ¬ ((ae : Int) ≤ (n : Int)) := by omega
              by_cases hlm : am < n
              · have q2 : (am : Int) < (n : Int) := by omega
                have Hpre := hide (show Bk K g0 a am g ∧ Bk K g0 am n g by
                  have e := unhide Hmd
                  have k := e.2.tail (by rw [← e.1]; omega) (by rw [← e.1]; omega)
                  rw [← e.1] at k
                  rw [ham]
                  exact k)
                have HC := hide (unhide HSym a am n g wr hS (by omega) hlm (Nat.le_refl _) (unhide Hpre).1.1 (unhide Hpre).2.1 (Bk.cross (Nat.le_refl _) (unhide Hv) (unhide Hpre).1 (unhide Hpre).2))
                have Hnums := hide (show ae = a + b2 ∧ am = a + bs ∧ b2 = 2 * bs from ⟨hae, ham, Hb2'⟩)
                clear hae ham hS Hb2'
                go_wp2_with fail
                refine (unhide HC).mono ?_
                rintro x w1 ⟨rfl, g', hS1, ho, hu⟩
                have HS1 := hide hS1
                have HL2 := hide (show Lv K g0 n b2 g' by
                  have e := unhide Hmd
                  have k := unhide Hnums
                  have bk := Bk.merge (unhide Hpre).1 (unhide Hpre).2 (by omega) (by omega) ho hu
                  rw [e.1] at ho bk
                  rw [k.2.2]
                  exact e.2.done (by omega) ho bk)
                clear hS1 ho hu HC Hpre
                go_wp2
                go_roundw
                case rel => exact ⟨b2, g', rfl, by have := unhide Hnums; omega, hb3, unhide HL2, unhide HS1⟩
                case measure => have := unhide Hnums; simp [intOf]; omega
              · have q2 : ¬ ((am : Int) < (n : Int)) := by omega
                have HL2 := hide (show Lv K g0 n b2 g by
                  have e := unhide Hmd
                  rw [Hb2']
                  exact e.2.idle (by omega) (by omega))
                have Hnums := hide (show ae = a + b2 ∧ am = a + bs ∧ b2 = 2 * bs from ⟨hae, ham, Hb2'⟩)
                have HS1 := hide hS
                clear hae ham hS Hb2'
                go_wp2
                go_roundw
                case rel => exact ⟨b2, g, rfl, by have := unhide Hnums; omega, hb3, unhide HL2, unhide HS1⟩
                case measure => have := unhide Hnums; simp [intOf]; omega
        · have q0 : ¬ ((bs : Int) < (n : Int)) := by omega
          have HA := hide ((unhide HL).all (by omega))
          have HS1 := hide hS
          clear hS
          go_wp2
          go_end0
          exact ⟨rfl, g, unhide HS1, unhide HA⟩

set_option maxHeartbeats 1000000 in
theorem sortstable_any {E : El} {D : Nat → Prop} {K : Nat → Nat} {W0 V : World} {b n cap B : Nat} {g0 : Nat → Nat} (hC : CmpIs E D K B W0 b) (h : SW E D W0 b n g0 V) (hn : n ≤ 256) (hv : ∀ i j, i < j → j < n → g0 i < g0 j) :
    StIs 20 E D K W0 b n #[slV b n cap, cpV B] g0 V := by
  have HC := hide (stable_any (cap := cap) hC h hn hv)
  unfold StIs
  clear h hC hv
  go_enter Try.func20, Try.ntmps20
  go_wp2_with fail
  refine (unhide HC).mono ?_
  rintro x w1 ⟨rfl, k⟩
  have Hk := hide k
  clear k
  go_wp2
  go_end0
  exact ⟨rfl, unhide Hk⟩
end Go.Proofs.Ytkhmdgppkjafoaa
