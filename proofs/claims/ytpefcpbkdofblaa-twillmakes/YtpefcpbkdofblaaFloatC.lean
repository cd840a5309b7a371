/-
  Floats of package truth.
-/
import Derived.Test.YtpefcpbkdofblaaFloatB
namespace Go.Proofs.Ytpefcpbkdofblaa
open Go.RowKit Go.Shelf

def FloatsIs (F : Nat) (w h : Int) (p : Option Addr) (n cap : Nat) (W : World) (d a er : Int) : Prop := Calls Try.prog F #[tr w h p n cap] W fun e w' => e = .returned (.tuple #[.int .i64 d, .int .i64 a, .int .i64 er]) ∧ Below W.heap.size W w'
set_option maxHeartbeats 1000000 in
theorem floats_err (w h : Int) (p : Option Addr) (n cap : Nat) (W : World) (er : Int) (her : wE w h n = er) (hp : 1 ≤ er) : FloatsIs 17 w h p n cap W 0 0 er := by
  have HT := hide (fun V => turned_err w h p n cap V er her hp)
  have hp' : (er != 0) = true := by simp; omega
  have B0 := hide (bal (o := .cells #[.int .i64 w, .int .i64 h, .slice p n cap] 25) (Below.refl W.heap.size W))
  clear her
  unfold FloatsIs
  go_enter Try.func17, Try.ntmps17
  go_wp2_with fail
  refine (unhide HT _).mono ?_
  rintro e w1 ⟨rfl, hb⟩
  have S := hide (bal (o := .cells #[.int .i64 0, .int .i64 0, .slice none 0 0] 25) (btrans (unhide B0) hb))
  clear hb
  go_wp2
  exact bodyPost_ret (v := .tuple #[.int .i64 0, .int .i64 0, .int .i64 er]) (by simp [results, Try.results17, go_sem]) rfl ⟨rfl, unhide S⟩

set_option maxHeartbeats 1000000 in
theorem floats_none (w h : Nat) (p : Option Addr) (n cap : Nat) (f : Nat → Bool) (W : World) (r : Rt W w h p n cap f) (hn : n = 0) : FloatsIs 17 w h p n cap W 0 0 5 := by
  have HR := hide (r.keep (bal (o := .cells #[.int .i64 w, .int .i64 h, .slice p n cap] 25) (Below.refl W.heap.size W)))
  have B0 := hide (bal (o := .cells #[.int .i64 w, .int .i64 h, .slice p n cap] 25) (Below.refl W.heap.size W))
  have M0 := hide (OwnM.new W w h p n cap 25)
  have hn' : ((n : Int) == 0) = true := by simp [hn]
  clear r hn
  unfold FloatsIs
  go_enter Try.func17, Try.ntmps17
  go_wp2_with fail
  generalize W.alloc (.cells #[.int .i64 w, .int .i64 h, .slice p n cap] 25) = w0 at *
  refine (turned_ok (unhide HR)).mono ?_
  rintro e w1 ⟨q, rfl, -, hb⟩
  have hb2 := bal (o := .cells #[.int .i64 h, .int .i64 w, .slice (some ⟨q, 0, none⟩) n n] 25) hb
  have S := hide (btrans (unhide B0) hb2)
  have m1 := ((unhide M0).keep hb2).2
  clear hb hb2 HR B0 M0
  go_wp2
  exact bodyPost_ret (v := .tuple #[.int .i64 0, .int .i64 0, .int .i64 5]) (by simp [results, Try.results17, go_sem]) rfl ⟨rfl, unhide S⟩

set_option maxRecDepth 100000 in
set_option maxHeartbeats 1000000 in
theorem floats_ok (w h : Nat) (p : Option Addr) (n cap : Nat) (f : Nat → Bool) (W : World) (r : Rt W w h p n cap f) (hn : 0 < n) : FloatsIs 17 w h p n cap W (lgM (tuF f w h) true h w : Nat) (lgM f false w h : Nat) 0 := by
  have HR := hide (r.keep (bal (o := .cells #[.int .i64 w, .int .i64 h, .slice p n cap] 25) (Below.refl W.heap.size W)))
  have B0 := hide (bal (o := .cells #[.int .i64 w, .int .i64 h, .slice p n cap] 25) (Below.refl W.heap.size W))
  have M0 := hide (OwnM.new W w h p n cap 25)
  have hn' : ((n : Int) == 0) = false := by simp; omega
  have hs0 : W.heap.size < (W.alloc (.cells #[.int .i64 w, .int .i64 h, .slice p n cap] 25)).heap.size := by simp
  obtain ⟨dd, hdd⟩ : ∃ dd, dd = lgM (tuF f w h) true h w := ⟨_, rfl⟩
  obtain ⟨aa, haa⟩ : ∃ aa, aa = lgM f false w h := ⟨_, rfl⟩
  rw [← hdd, ← haa]
  have Hdd := hide hdd
  have Haa := hide haa
  clear r hn hdd haa
  unfold FloatsIs
  go_enter Try.func17, Try.ntmps17
  go_wp2_with fail
  generalize W.alloc (.cells #[.int .i64 w, .int .i64 h, .slice p n cap] 25) = w0 at *
  refine (turned_ok (unhide HR)).mono ?_
  rintro e w1 ⟨q, rfl, hr, hb⟩
  have hb2 := bal (o := .cells #[.int .i64 h, .int .i64 w, .slice (some ⟨q, 0, none⟩) n n] 25) hb
  have S := hide (btrans (unhide B0) hb2)
  have M1 := (unhide M0).keep hb2
  have m1 := M1.2
  have T1 := Tb.new hr
  have R1 := hide ((unhide HR).keep hb2)
  have hz1 : W.heap.size < w1.heap.size := Nat.lt_of_lt_of_le hs0 hb.size
  clear hb hb2 HR B0 M0 hr
  go_wp2_with fail
  have Hm1 := hide M1
  have HT1 := hide T1
  clear m1 M1 T1
  generalize w1.alloc (.cells #[.int .i64 h, .int .i64 w, .slice (some ⟨q, 0, none⟩) n n] 25) = w2 at *
  generalize w1.heap.size = b1 at *
  have HLT := hide (show ∀ V, Below w2.heap.size w2 V → Calls Try.prog 31 #[tr h w (some ⟨q, 0, none⟩) n n, .bool true] V fun e w' => e = .returned (.int .i64 (dd : Nat)) ∧ Below V.heap.size V w' from fun V hV => by rw [unhide Hdd]; exact longest_ok true ((unhide HT1).2.keep hV))
  have HLF := hide (show ∀ V, Below w2.heap.size w2 V → Calls Try.prog 31 #[tr w h p n cap, .bool false] V fun e w' => e = .returned (.int .i64 (aa : Nat)) ∧ Below V.heap.size V w' from fun V hV => by rw [unhide Haa]; exact longest_ok false ((unhide R1).keep hV))
  have Hld := hide (show ∀ V, Below w2.heap.size w2 V → (V.cell? ⟨W.heap.size, 0, none⟩ = some (.int .i64 w) ∧ V.cell? ⟨W.heap.size, 1, none⟩ = some (.int .i64 h) ∧ V.cell? ⟨W.heap.size, 2, none⟩ = some (.slice p n cap)) ∧ (V.cell? ⟨b1, 0, none⟩ = some (.int .i64 h) ∧ V.cell? ⟨b1, 1, none⟩ = some (.int .i64 w) ∧ V.cell? ⟨b1, 2, none⟩ = some (.slice (some ⟨q, 0, none⟩) n n)) from fun V hV => ⟨((unhide Hm1).keep hV).2, ((unhide HT1).1.keep hV).2⟩)
  clear Hm1 HT1 R1
  have hb2 := True.intro
  have hb3 := True.intro
  go_region_held3 (fun V => Below w2.heap.size w2 V ∧ ((V.cell? ⟨W.heap.size, 0, none⟩ = some (.int .i64 w) ∧ V.cell? ⟨W.heap.size, 1, none⟩ = some (.int .i64 h) ∧ V.cell? ⟨W.heap.size, 2, none⟩ = some (.slice p n cap)) ∧ (V.cell? ⟨b1, 0, none⟩ = some (.int .i64 h) ∧ V.cell? ⟨b1, 1, none⟩ = some (.int .i64 w) ∧ V.cell? ⟨b1, 2, none⟩ = some (.slice (some ⟨q, 0, none⟩) n n))))
    (first
      | (exact ⟨Below.drew (Below.refl _ _), unhide Hld _ (Below.drew (Below.refl _ _))⟩)
      | (exact ⟨hb3, unhide Hld _ hb3⟩)
      | (exact ⟨hb2, unhide Hld _ hb2⟩))
    (first
      | (go_at_call_of 31 (Value.bool true); refine (unhide HLT _ (by first | exact hb2 | exact Below.drew (Below.refl _ _))).mono ?_; rintro e w10 ⟨rfl, hb⟩; have hb3 := btrans (by first | exact hb2 | exact Below.drew (Below.refl _ _)) hb)
      | (go_at_call_of 31 (Value.bool false); refine (unhide HLF _ (by first | exact hb3 | exact Below.drew (Below.refl _ _))).mono ?_; rintro e w11 ⟨rfl, hb⟩; have hb2 := btrans (by first | exact hb3 | exact Below.drew (Below.refl _ _)) hb))
  have Sf := hide (btrans (unhide S) hb2)
  go_wp2
  exact bodyPost_ret (v := .tuple #[.int .i64 (dd : Nat), .int .i64 (aa : Nat), .int .i64 0]) (by simp [results, Try.results17, go_sem]) rfl ⟨rfl, unhide Sf⟩
end Go.Proofs.Ytpefcpbkdofblaa
