/-
  TruthProducts: the mathematics of products, and the law's walk.
-/
import Derived.Test.YtppnfafmgkpnnaaRt
namespace Go.Proofs.Ytppnfafmgkpnnaa
open Go.RowKit Go.Shelf

theorem dm_div (a b c : Nat) (h : c < b) : (a * b + c) / b = a := by
  rw [Nat.mul_comm, Nat.mul_add_div (by omega), Nat.div_eq_of_lt h, Nat.add_zero]
theorem dm_mod (a b c : Nat) (h : c < b) : (a * b + c) % b = c := by
  rw [Nat.mul_comm, Nat.mul_add_mod, Nat.mod_eq_of_lt h]
theorem pos_of_lt {j a b : Nat} (h : j < a * b) : 0 < a ∧ 0 < b := by
  constructor
  · rcases Nat.eq_zero_or_pos a with e | e
    · subst e; simp at h
    · exact e
  · rcases Nat.eq_zero_or_pos b with e | e
    · subst e; simp at h
    · exact e
theorem any_congr {l : List Nat} {f g : Nat → Bool} (h : ∀ k ∈ l, f k = g k) : l.any f = l.any g := by
  induction l with
  | nil => rfl
  | cons a l ih =>
    rw [List.any_cons, List.any_cons, h a (by simp), ih (fun k hk => h k (by simp [hk]))]
/-- turned twice is as it was -/
theorem tu_tu (f : Nat → Bool) (w h j : Nat) (hj : j < w * h) : tuF (tuF f w h) h w j = f j := by
  obtain ⟨h1, h2⟩ := pos_of_lt hj
  have hd : j / w < h := Nat.div_lt_of_lt_mul hj
  unfold tuF
  rw [dm_mod _ _ _ hd, dm_div _ _ _ hd]
  congr 1
  rw [Nat.mul_comm]
  exact Nat.div_add_mod j w
/-- a product turned is the product of both turned, the other way round -/
theorem pr_tu (f g : Nat → Bool) (wa ha wb j : Nat) (hj : j < ha * wb) : prF (tuF g wb wa) (tuF f wa ha) wa ha j = tuF (prF f g wa wb) wb ha j := by
  obtain ⟨h1, h2⟩ := pos_of_lt hj
  have hx : j / ha < wb := Nat.div_lt_of_lt_mul hj
  have hy : j % ha < ha := Nat.mod_lt _ h1
  unfold tuF prF
  rw [dm_mod _ _ _ hx, dm_div _ _ _ hx]
  refine any_congr (fun k hk => ?_)
  have hk' : k < wa := by simpa using hk
  dsimp only
  rw [dm_mod _ _ _ hk', dm_div _ _ _ hk', dm_mod _ _ _ hy, dm_div _ _ _ hy, Bool.and_comm]
theorem any_swap (l m : List Nat) (f : Nat → Nat → Bool) : (l.any fun a => m.any fun b => f a b) = (m.any fun b => l.any fun a => f a b) := by
  rw [Bool.eq_iff_iff]
  simp only [List.any_eq_true]
  constructor
  · rintro ⟨a, ha, b, hb, h⟩; exact ⟨b, hb, a, ha, h⟩
  · rintro ⟨a, ha, b, hb, h⟩; exact ⟨b, hb, a, ha, h⟩
/-- products go together either way -/
theorem pr_assoc (f g k : Nat → Bool) (wa wb wc j : Nat) (hc : 0 < wc) : prF (prF f g wa wb) k wb wc j = prF f (prF g k wb wc) wa wc j := by
  have hx : j % wc < wc := Nat.mod_lt _ hc
  unfold prF
  have e1 : ((List.range wb).any fun i => ((List.range wa).any fun m => f ((j / wc * wb + i) / wb * wa + m) && g (m * wb + (j / wc * wb + i) % wb)) && k (i * wc + j % wc)) = ((List.range wb).any fun i => (List.range wa).any fun m => f (j / wc * wa + m) && g (m * wb + i) && k (i * wc + j % wc)) := by
    refine any_congr (fun i hi => ?_)
    have hi' : i < wb := by simpa using hi
    rw [dm_mod _ _ _ hi', dm_div _ _ _ hi', Bool.eq_iff_iff]
    simp only [List.any_eq_true, Bool.and_eq_true]
    constructor
    · rintro ⟨⟨m, hm, h⟩, h'⟩; exact ⟨m, hm, h, h'⟩
    · rintro ⟨m, hm, h, h'⟩; exact ⟨⟨m, hm, h⟩, h'⟩
  have e2 : ((List.range wa).any fun m => f (j / wc * wa + m) && (List.range wb).any fun i => g ((m * wc + j % wc) / wc * wb + i) && k (i * wc + (m * wc + j % wc) % wc)) = ((List.range wa).any fun m => (List.range wb).any fun i => f (j / wc * wa + m) && g (m * wb + i) && k (i * wc + j % wc)) := by
    refine any_congr (fun m _ => ?_)
    rw [dm_mod _ _ _ hx, dm_div _ _ _ hx, Bool.eq_iff_iff]
    simp only [List.any_eq_true, Bool.and_eq_true]
    constructor
    · rintro ⟨h', i, hi, h⟩; exact ⟨i, hi, ⟨h', h.1⟩, h.2⟩
    · rintro ⟨i, hi, ⟨h', h1⟩, h2⟩; exact ⟨h', i, hi, h1, h2⟩
  rw [e1, e2, any_swap]

theorem p3w_facts (W : World) (w h : Int) (p : Option Addr) (n cap : Nat) (w2 h2 : Int) (p2 : Option Addr) (n2 cap2 : Nat) (w3 h3 : Int) (p3 : Option Addr) (n3 cap3 : Nat) :
    ∃ w0, ((W.alloc (.cells #[.int .i64 w, .int .i64 h, .slice p n cap] 24)).alloc (.cells #[.int .i64 w2, .int .i64 h2, .slice p2 n2 cap2] 24)).alloc (.cells #[.int .i64 w3, .int .i64 h3, .slice p3 n3 cap3] 24) = w0 ∧ OwnM w0 W.heap.size w h p n cap ∧ OwnM w0 (W.heap.size + 1) w2 h2 p2 n2 cap2 ∧ OwnM w0 (W.heap.size + 1 + 1) w3 h3 p3 n3 cap3 ∧ Below W.heap.size W w0 := by
  have a := OwnM.new W w h p n cap 24
  have b := OwnM.new (W.alloc (.cells #[.int .i64 w, .int .i64 h, .slice p n cap] 24)) w2 h2 p2 n2 cap2 24
  have c := OwnM.new ((W.alloc (.cells #[.int .i64 w, .int .i64 h, .slice p n cap] 24)).alloc (.cells #[.int .i64 w2, .int .i64 h2, .slice p2 n2 cap2] 24)) w3 h3 p3 n3 cap3 24
  rw [World.size_alloc] at b c
  rw [World.size_alloc] at c
  exact ⟨_, rfl, (a.alloc _).alloc _, b.alloc _, c, bal (bal (bal (Below.refl _ _)))⟩

def ProdsIs (w h : Int) (p : Option Addr) (n cap : Nat) (w2 h2 : Int) (p2 : Option Addr) (n2 cap2 : Nat) (w3 h3 : Int) (p3 : Option Addr) (n3 cap3 : Nat) (W : World) : Prop :=
  Calls Try.prog 4 #[tr w h p n cap, tr w2 h2 p2 n2 cap2, tr w3 h3 p3 n3 cap3] W fun e w' => e = .returned (.bool true) ∧ Below W.heap.size W w'

set_option maxRecDepth 100000 in
set_option maxHeartbeats 1000000 in
theorem lp_a (w h : Int) (p : Option Addr) (n cap : Nat) (w2 h2 : Int) (p2 : Option Addr) (n2 cap2 : Nat) (w3 h3 : Int) (p3 : Option Addr) (n3 cap3 : Nat) (W : World) (he : wE w h n ≠ 0) : ProdsIs w h p n cap w2 h2 p2 n2 cap2 w3 h3 p3 n3 cap3 W := by
  have HT := hide (fun V => turned_err w h p n cap V _ rfl (wE_pos w h n he))
  have hp := wE_pos w h n he
  generalize wE w h n = er at *
  have hp' : (er != 0) = true := by simp; omega
  obtain ⟨w0, E0, oa, ob, oc, S0⟩ := p3w_facts W w h p n cap w2 h2 p2 n2 cap2 w3 h3 p3 n3 cap3
  have HE := hide E0
  have S := hide S0
  have A := hide oa
  clear E0 S0 he oa ob oc
  unfold ProdsIs
  go_enter Try.func4, Try.ntmps4
  go_wp2_with fail
  rw [unhide HE]
  clear HE
  refine (alive_any w0).mono ?_
  rintro e w1 ⟨rfl, hb⟩
  have An := hide ((unhide A).keep hb)
  have Sn := hide (btrans (unhide S) hb)
  clear S A
  have A := An
  have S := Sn
  clear Sn An
  clear hb
  have cA := (unhide A).2
  go_wp2_with fail
  clear cA
  refine (unhide HT _).mono ?_
  rintro e v1 ⟨rfl, hb⟩
  have Sf := hide (bal (o := .cells #[.int .i64 0, .int .i64 0, .slice none 0 0] 24) (btrans (unhide S) hb))
  clear hb
  go_wp2
  go_ret
  exact ⟨rfl, unhide Sf⟩

set_option maxRecDepth 100000 in
set_option maxHeartbeats 1000000 in
theorem lp_b (wa ha : Nat) (p : Option Addr) (na cap : Nat) (f : Nat → Bool) (w2 h2 : Int) (p2 : Option Addr) (n2 cap2 : Nat) (w3 h3 : Int) (p3 : Option Addr) (n3 cap3 : Nat) (W : World) (ra : Rt W wa ha p na cap f) (he : pE wa ha na w2 h2 n2 ≠ 0) : ProdsIs wa ha p na cap w2 h2 p2 n2 cap2 w3 h3 p3 n3 cap3 W := by
  have HT := hide (fun V => prod_err wa ha p na cap w2 h2 p2 n2 cap2 V he)
  have hp := pE_pos _ _ _ _ _ _ he
  generalize pE wa ha na w2 h2 n2 = er at *
  have hp' : (er != 0) = true := by simp; omega
  have Hna := hide ra.2.2.1
  obtain ⟨w0, E0, oa, ob, oc, S0⟩ := p3w_facts W wa ha p na cap w2 h2 p2 n2 cap2 w3 h3 p3 n3 cap3
  have HE := hide E0
  have S := hide S0
  have A := hide (show Tb w0 W.heap.size wa ha p na cap f from ⟨oa, ra.keep S0⟩)
  have B := hide ob
  clear E0 S0 he oa ob oc ra
  unfold ProdsIs
  go_enter Try.func4, Try.ntmps4
  go_wp2_with fail
  rw [unhide HE]
  clear HE
  refine (alive_any w0).mono ?_
  rintro e w1 ⟨rfl, hb⟩
  have An := hide ((unhide A).keep hb)
  have Bn := hide ((unhide B).keep hb)
  have Sn := hide (btrans (unhide S) hb)
  clear S A B
  have A := An
  have B := Bn
  have S := Sn
  clear Sn An Bn
  clear hb
  have cA := (unhide A).1.2
  go_wp2_with fail
  clear cA
  refine (turned_ok (unhide A).2).mono ?_
  rintro e v1 ⟨q1, rfl, hr, hb⟩
  have hb2 := bal (o := .cells #[.int .i64 ha, .int .i64 wa, .slice (some ⟨q1, 0, none⟩) na na] 24) hb
  have An := hide ((unhide A).keep hb2)
  have Bn := hide ((unhide B).keep hb2)
  have Sn := hide (btrans (unhide S) hb2)
  clear S A B
  have A := An
  have B := Bn
  have S := Sn
  clear Sn An Bn
  have T := hide (Tb.new hr)
  clear hb hb2 hr
  have cT := (unhide T).1.2
  go_wp2_with fail
  clear cT
  generalize v1.alloc (.cells #[.int .i64 ha, .int .i64 wa, .slice (some ⟨q1, 0, none⟩) na na] 24) = xv1 at *
  generalize v1.heap.size = bv1 at *
  refine (turned_ok (unhide T).2).mono ?_
  rintro e v2 ⟨q2, rfl, hr, hb⟩
  have hb2 := bal (o := .cells #[.int .i64 wa, .int .i64 ha, .slice (some ⟨q2, 0, none⟩) na na] 24) hb
  have An := hide ((unhide A).keep hb2)
  have Bn := hide ((unhide B).keep hb2)
  have Tn := hide ((unhide T).keep hb2)
  have Sn := hide (btrans (unhide S) hb2)
  clear S A B T
  have A := An
  have B := Bn
  have T := Tn
  have S := Sn
  clear Sn An Bn Tn
  have K := hide (Tb.new hr)
  clear hb hb2 hr
  have cK := (unhide K).1.2
  have cA := (unhide A).1.2
  go_wp2_with fail
  clear cK cA
  generalize v2.alloc (.cells #[.int .i64 wa, .int .i64 ha, .slice (some ⟨q2, 0, none⟩) na na] 24) = xv2 at *
  generalize v2.heap.size = bv2 at *
  refine (same_ok (unhide K).2 (unhide A).2 (fun j hj => tu_tu f wa ha j (by rw [← unhide Hna]; exact hj))).mono ?_
  rintro e w3 ⟨rfl, hb⟩
  have An := hide ((unhide A).keep hb)
  have Bn := hide ((unhide B).keep hb)
  have Tn := hide ((unhide T).keep hb)
  have Kn := hide ((unhide K).keep hb)
  have Sn := hide (btrans (unhide S) hb)
  clear S A B T K
  have A := An
  have B := Bn
  have T := Tn
  have K := Kn
  have S := Sn
  clear Sn An Bn Tn Kn
  clear hb
  have cA := (unhide A).1.2
  have cB := (unhide B).2
  go_wp2_with fail
  clear cA cB
  refine (unhide HT _).mono ?_
  rintro e v4 ⟨rfl, hb⟩
  have Sf := hide (bal (o := .cells #[.int .i64 0, .int .i64 0, .slice none 0 0] 24) (btrans (unhide S) hb))
  clear hb
  go_wp2
  go_ret
  exact ⟨rfl, unhide Sf⟩

set_option maxRecDepth 100000 in
set_option maxHeartbeats 1000000 in
theorem lp_c (wa ha wb : Nat) (p : Option Addr) (na cap : Nat) (f : Nat → Bool) (p2 : Option Addr) (nb cap2 : Nat) (g : Nat → Bool) (w3 h3 : Int) (p3 : Option Addr) (n3 cap3 : Nat) (W : World) (ra : Rt W wa ha p na cap f) (rb : Rt W wb wa p2 nb cap2 g) (he : pE wb wa nb w3 h3 n3 ≠ 0) : ProdsIs wa ha p na cap wb wa p2 nb cap2 w3 h3 p3 n3 cap3 W := by
  have HT := hide (fun V => prod_err wb wa p2 nb cap2 w3 h3 p3 n3 cap3 V he)
  have hp := pE_pos _ _ _ _ _ _ he
  generalize pE wb wa nb w3 h3 n3 = er at *
  have hp' : (er != 0) = true := by simp; omega
  have Hna := hide ra.2.2.1
  obtain ⟨nab, hnab⟩ : ∃ m, m = wb * ha := ⟨_, rfl⟩
  have Hnab := hide hnab
  obtain ⟨w0, E0, oa, ob, oc, S0⟩ := p3w_facts W wa ha p na cap wb wa p2 nb cap2 w3 h3 p3 n3 cap3
  have HE := hide E0
  have S := hide S0
  have A := hide (show Tb w0 W.heap.size wa ha p na cap f from ⟨oa, ra.keep S0⟩)
  have B := hide (show Tb w0 (W.heap.size + 1) wb wa p2 nb cap2 g from ⟨ob, rb.keep S0⟩)
  have C := hide oc
  clear E0 S0 he oa ob oc ra rb hnab
  unfold ProdsIs
  go_enter Try.func4, Try.ntmps4
  go_wp2_with fail
  rw [unhide HE]
  clear HE
  refine (alive_any w0).mono ?_
  rintro e w1 ⟨rfl, hb⟩
  have An := hide ((unhide A).keep hb)
  have Bn := hide ((unhide B).keep hb)
  have Cn := hide ((unhide C).keep hb)
  have Sn := hide (btrans (unhide S) hb)
  clear S A B C
  have A := An
  have B := Bn
  have C := Cn
  have S := Sn
  clear Sn An Bn Cn
  clear hb
  have cA := (unhide A).1.2
  go_wp2_with fail
  clear cA
  refine (turned_ok (unhide A).2).mono ?_
  rintro e v1 ⟨q1, rfl, hr, hb⟩
  have hb2 := bal (o := .cells #[.int .i64 ha, .int .i64 wa, .slice (some ⟨q1, 0, none⟩) na na] 24) hb
  have An := hide ((unhide A).keep hb2)
  have Bn := hide ((unhide B).keep hb2)
  have Cn := hide ((unhide C).keep hb2)
  have Sn := hide (btrans (unhide S) hb2)
  clear S A B C
  have A := An
  have B := Bn
  have C := Cn
  have S := Sn
  clear Sn An Bn Cn
  have T := hide (Tb.new hr)
  clear hb hb2 hr
  have cT := (unhide T).1.2
  go_wp2_with fail
  clear cT
  generalize v1.alloc (.cells #[.int .i64 ha, .int .i64 wa, .slice (some ⟨q1, 0, none⟩) na na] 24) = xv1 at *
  generalize v1.heap.size = bv1 at *
  refine (turned_ok (unhide T).2).mono ?_
  rintro e v2 ⟨q2, rfl, hr, hb⟩
  have hb2 := bal (o := .cells #[.int .i64 wa, .int .i64 ha, .slice (some ⟨q2, 0, none⟩) na na] 24) hb
  have An := hide ((unhide A).keep hb2)
  have Bn := hide ((unhide B).keep hb2)
  have Cn := hide ((unhide C).keep hb2)
  have Tn := hide ((unhide T).keep hb2)
  have Sn := hide (btrans (unhide S) hb2)
  clear S A B C T
  have A := An
  have B := Bn
  have C := Cn
  have T := Tn
  have S := Sn
  clear Sn An Bn Cn Tn
  have K := hide (Tb.new hr)
  clear hb hb2 hr
  have cK := (unhide K).1.2
  have cA := (unhide A).1.2
  go_wp2_with fail
  clear cK cA
  generalize v2.alloc (.cells #[.int .i64 wa, .int .i64 ha, .slice (some ⟨q2, 0, none⟩) na na] 24) = xv2 at *
  generalize v2.heap.size = bv2 at *
  refine (same_ok (unhide K).2 (unhide A).2 (fun j hj => tu_tu f wa ha j (by rw [← unhide Hna]; exact hj))).mono ?_
  rintro e w3 ⟨rfl, hb⟩
  have An := hide ((unhide A).keep hb)
  have Bn := hide ((unhide B).keep hb)
  have Cn := hide ((unhide C).keep hb)
  have Tn := hide ((unhide T).keep hb)
  have Kn := hide ((unhide K).keep hb)
  have Sn := hide (btrans (unhide S) hb)
  clear S A B C T K
  have A := An
  have B := Bn
  have C := Cn
  have T := Tn
  have K := Kn
  have S := Sn
  clear Sn An Bn Cn Tn Kn
  clear hb
  have cA := (unhide A).1.2
  have cB := (unhide B).1.2
  go_wp2_with fail
  clear cA cB
  refine (prod_ok (unhide A).2 (unhide B).2 nab (unhide Hnab)).mono ?_
  rintro e v4 ⟨q4, rfl, hr, hb⟩
  have hb2 := bal (o := .cells #[.int .i64 wb, .int .i64 ha, .slice (some ⟨q4, 0, none⟩) nab nab] 24) hb
  have An := hide ((unhide A).keep hb2)
  have Bn := hide ((unhide B).keep hb2)
  have Cn := hide ((unhide C).keep hb2)
  have Tn := hide ((unhide T).keep hb2)
  have Kn := hide ((unhide K).keep hb2)
  have Sn := hide (btrans (unhide S) hb2)
  clear S A B C T K
  have A := An
  have B := Bn
  have C := Cn
  have T := Tn
  have K := Kn
  have S := Sn
  clear Sn An Bn Cn Tn Kn
  have AB := hide (Tb.new hr)
  clear hb hb2 hr
  have cB := (unhide B).1.2
  go_wp2_with fail
  clear cB
  generalize v4.alloc (.cells #[.int .i64 wb, .int .i64 ha, .slice (some ⟨q4, 0, none⟩) nab nab] 24) = xv4 at *
  generalize v4.heap.size = bv4 at *
  refine (turned_ok (unhide B).2).mono ?_
  rintro e v5 ⟨q5, rfl, hr, hb⟩
  have hb2 := bal (o := .cells #[.int .i64 wa, .int .i64 wb, .slice (some ⟨q5, 0, none⟩) nb nb] 24) hb
  have An := hide ((unhide A).keep hb2)
  have Bn := hide ((unhide B).keep hb2)
  have Cn := hide ((unhide C).keep hb2)
  have Tn := hide ((unhide T).keep hb2)
  have Kn := hide ((unhide K).keep hb2)
  have ABn := hide ((unhide AB).keep hb2)
  have Sn := hide (btrans (unhide S) hb2)
  clear S A B C T K AB
  have A := An
  have B := Bn
  have C := Cn
  have T := Tn
  have K := Kn
  have AB := ABn
  have S := Sn
  clear Sn An Bn Cn Tn Kn ABn
  have U := hide (Tb.new hr)
  clear hb hb2 hr
  have cU := (unhide U).1.2
  have cT := (unhide T).1.2
  go_wp2_with fail
  clear cU cT
  generalize v5.alloc (.cells #[.int .i64 wa, .int .i64 wb, .slice (some ⟨q5, 0, none⟩) nb nb] 24) = xv5 at *
  generalize v5.heap.size = bv5 at *
  refine (prod_ok (unhide U).2 (unhide T).2 nab (by rw [unhide Hnab, Nat.mul_comm])).mono ?_
  rintro e v6 ⟨q6, rfl, hr, hb⟩
  have hb2 := bal (o := .cells #[.int .i64 ha, .int .i64 wb, .slice (some ⟨q6, 0, none⟩) nab nab] 24) hb
  have An := hide ((unhide A).keep hb2)
  have Bn := hide ((unhide B).keep hb2)
  have Cn := hide ((unhide C).keep hb2)
  have Tn := hide ((unhide T).keep hb2)
  have Kn := hide ((unhide K).keep hb2)
  have ABn := hide ((unhide AB).keep hb2)
  have Un := hide ((unhide U).keep hb2)
  have Sn := hide (btrans (unhide S) hb2)
  clear S A B C T K AB U
  have A := An
  have B := Bn
  have C := Cn
  have T := Tn
  have K := Kn
  have AB := ABn
  have U := Un
  have S := Sn
  clear Sn An Bn Cn Tn Kn ABn Un
  have X := hide (Tb.new hr)
  clear hb hb2 hr
  have cAB := (unhide AB).1.2
  go_wp2_with fail
  clear cAB
  generalize v6.alloc (.cells #[.int .i64 ha, .int .i64 wb, .slice (some ⟨q6, 0, none⟩) nab nab] 24) = xv6 at *
  generalize v6.heap.size = bv6 at *
  refine (turned_ok (unhide AB).2).mono ?_
  rintro e v7 ⟨q7, rfl, hr, hb⟩
  have hb2 := bal (o := .cells #[.int .i64 ha, .int .i64 wb, .slice (some ⟨q7, 0, none⟩) nab nab] 24) hb
  have An := hide ((unhide A).keep hb2)
  have Bn := hide ((unhide B).keep hb2)
  have Cn := hide ((unhide C).keep hb2)
  have Tn := hide ((unhide T).keep hb2)
  have Kn := hide ((unhide K).keep hb2)
  have ABn := hide ((unhide AB).keep hb2)
  have Un := hide ((unhide U).keep hb2)
  have Xn := hide ((unhide X).keep hb2)
  have Sn := hide (btrans (unhide S) hb2)
  clear S A B C T K AB U X
  have A := An
  have B := Bn
  have C := Cn
  have T := Tn
  have K := Kn
  have AB := ABn
  have U := Un
  have X := Xn
  have S := Sn
  clear Sn An Bn Cn Tn Kn ABn Un Xn
  have V := hide (Tb.new hr)
  clear hb hb2 hr
  have cX := (unhide X).1.2
  have cV := (unhide V).1.2
  go_wp2_with fail
  clear cX cV
  generalize v7.alloc (.cells #[.int .i64 ha, .int .i64 wb, .slice (some ⟨q7, 0, none⟩) nab nab] 24) = xv7 at *
  generalize v7.heap.size = bv7 at *
  refine (same_ok (unhide X).2 (unhide V).2 (fun j hj => pr_tu f g wa ha wb j (by rw [Nat.mul_comm, ← unhide Hnab]; exact hj))).mono ?_
  rintro e w8 ⟨rfl, hb⟩
  have An := hide ((unhide A).keep hb)
  have Bn := hide ((unhide B).keep hb)
  have Cn := hide ((unhide C).keep hb)
  have Tn := hide ((unhide T).keep hb)
  have Kn := hide ((unhide K).keep hb)
  have ABn := hide ((unhide AB).keep hb)
  have Un := hide ((unhide U).keep hb)
  have Xn := hide ((unhide X).keep hb)
  have Vn := hide ((unhide V).keep hb)
  have Sn := hide (btrans (unhide S) hb)
  clear S A B C T K AB U X V
  have A := An
  have B := Bn
  have C := Cn
  have T := Tn
  have K := Kn
  have AB := ABn
  have U := Un
  have X := Xn
  have V := Vn
  have S := Sn
  clear Sn An Bn Cn Tn Kn ABn Un Xn Vn
  clear hb
  have cB := (unhide B).1.2
  have cC := (unhide C).2
  go_wp2_with fail
  clear cB cC
  refine (unhide HT _).mono ?_
  rintro e v9 ⟨rfl, hb⟩
  have Sf := hide (bal (o := .cells #[.int .i64 0, .int .i64 0, .slice none 0 0] 24) (btrans (unhide S) hb))
  clear hb
  go_wp2
  go_ret
  exact ⟨rfl, unhide Sf⟩

set_option maxRecDepth 100000 in
set_option maxHeartbeats 1000000 in
theorem lp_d (wa ha wb wc : Nat) (p : Option Addr) (na cap : Nat) (f : Nat → Bool) (p2 : Option Addr) (nb cap2 : Nat) (g : Nat → Bool) (p3 : Option Addr) (nc cap3 : Nat) (k : Nat → Bool) (W : World) (ra : Rt W wa ha p na cap f) (rb : Rt W wb wa p2 nb cap2 g) (rc : Rt W wc wb p3 nc cap3 k) : ProdsIs wa ha p na cap wb wa p2 nb cap2 wc wb p3 nc cap3 W := by
  have Hna := hide ra.2.2.1
  obtain ⟨nab, hnab⟩ : ∃ m, m = wb * ha := ⟨_, rfl⟩
  have Hnab := hide hnab
  obtain ⟨nbc, hnbc⟩ : ∃ m, m = wc * wa := ⟨_, rfl⟩
  have Hnbc := hide hnbc
  obtain ⟨nl, hnl⟩ : ∃ m, m = wc * ha := ⟨_, rfl⟩
  have Hnl := hide hnl
  obtain ⟨w0, E0, oa, ob, oc, S0⟩ := p3w_facts W wa ha p na cap wb wa p2 nb cap2 wc wb p3 nc cap3
  have HE := hide E0
  have S := hide S0
  have A := hide (show Tb w0 W.heap.size wa ha p na cap f from ⟨oa, ra.keep S0⟩)
  have B := hide (show Tb w0 (W.heap.size + 1) wb wa p2 nb cap2 g from ⟨ob, rb.keep S0⟩)
  have C := hide (show Tb w0 (W.heap.size + 1 + 1) wc wb p3 nc cap3 k from ⟨oc, rc.keep S0⟩)
  clear E0 S0 oa ob oc ra rb rc hnab hnbc hnl
  unfold ProdsIs
  go_enter Try.func4, Try.ntmps4
  go_wp2_with fail
  rw [unhide HE]
  clear HE
  refine (alive_any w0).mono ?_
  rintro e w1 ⟨rfl, hb⟩
  have An := hide ((unhide A).keep hb)
  have Bn := hide ((unhide B).keep hb)
  have Cn := hide ((unhide C).keep hb)
  have Sn := hide (btrans (unhide S) hb)
  clear S A B C
  have A := An
  have B := Bn
  have C := Cn
  have S := Sn
  clear Sn An Bn Cn
  clear hb
  have cA := (unhide A).1.2
  go_wp2_with fail
  clear cA
  refine (turned_ok (unhide A).2).mono ?_
  rintro e v1 ⟨q1, rfl, hr, hb⟩
  have hb2 := bal (o := .cells #[.int .i64 ha, .int .i64 wa, .slice (some ⟨q1, 0, none⟩) na na] 24) hb
  have An := hide ((unhide A).keep hb2)
  have Bn := hide ((unhide B).keep hb2)
  have Cn := hide ((unhide C).keep hb2)
  have Sn := hide (btrans (unhide S) hb2)
  clear S A B C
  have A := An
  have B := Bn
  have C := Cn
  have S := Sn
  clear Sn An Bn Cn
  have T := hide (Tb.new hr)
  clear hb hb2 hr
  have cT := (unhide T).1.2
  go_wp2_with fail
  clear cT
  generalize v1.alloc (.cells #[.int .i64 ha, .int .i64 wa, .slice (some ⟨q1, 0, none⟩) na na] 24) = xv1 at *
  generalize v1.heap.size = bv1 at *
  refine (turned_ok (unhide T).2).mono ?_
  rintro e v2 ⟨q2, rfl, hr, hb⟩
  have hb2 := bal (o := .cells #[.int .i64 wa, .int .i64 ha, .slice (some ⟨q2, 0, none⟩) na na] 24) hb
  have An := hide ((unhide A).keep hb2)
  have Bn := hide ((unhide B).keep hb2)
  have Cn := hide ((unhide C).keep hb2)
  have Tn := hide ((unhide T).keep hb2)
  have Sn := hide (btrans (unhide S) hb2)
  clear S A B C T
  have A := An
  have B := Bn
  have C := Cn
  have T := Tn
  have S := Sn
  clear Sn An Bn Cn Tn
  have K := hide (Tb.new hr)
  clear hb hb2 hr
  have cK := (unhide K).1.2
  have cA := (unhide A).1.2
  go_wp2_with fail
  clear cK cA
  generalize v2.alloc (.cells #[.int .i64 wa, .int .i64 ha, .slice (some ⟨q2, 0, none⟩) na na] 24) = xv2 at *
  generalize v2.heap.size = bv2 at *
  refine (same_ok (unhide K).2 (unhide A).2 (fun j hj => tu_tu f wa ha j (by rw [← unhide Hna]; exact hj))).mono ?_
  rintro e w3 ⟨rfl, hb⟩
  have An := hide ((unhide A).keep hb)
  have Bn := hide ((unhide B).keep hb)
  have Cn := hide ((unhide C).keep hb)
  have Tn := hide ((unhide T).keep hb)
  have Kn := hide ((unhide K).keep hb)
  have Sn := hide (btrans (unhide S) hb)
  clear S A B C T K
  have A := An
  have B := Bn
  have C := Cn
  have T := Tn
  have K := Kn
  have S := Sn
  clear Sn An Bn Cn Tn Kn
  clear hb
  have cA := (unhide A).1.2
  have cB := (unhide B).1.2
  go_wp2_with fail
  clear cA cB
  refine (prod_ok (unhide A).2 (unhide B).2 nab (unhide Hnab)).mono ?_
  rintro e v4 ⟨q4, rfl, hr, hb⟩
  have hb2 := bal (o := .cells #[.int .i64 wb, .int .i64 ha, .slice (some ⟨q4, 0, none⟩) nab nab] 24) hb
  have An := hide ((unhide A).keep hb2)
  have Bn := hide ((unhide B).keep hb2)
  have Cn := hide ((unhide C).keep hb2)
  have Tn := hide ((unhide T).keep hb2)
  have Kn := hide ((unhide K).keep hb2)
  have Sn := hide (btrans (unhide S) hb2)
  clear S A B C T K
  have A := An
  have B := Bn
  have C := Cn
  have T := Tn
  have K := Kn
  have S := Sn
  clear Sn An Bn Cn Tn Kn
  have AB := hide (Tb.new hr)
  clear hb hb2 hr
  have cB := (unhide B).1.2
  go_wp2_with fail
  clear cB
  generalize v4.alloc (.cells #[.int .i64 wb, .int .i64 ha, .slice (some ⟨q4, 0, none⟩) nab nab] 24) = xv4 at *
  generalize v4.heap.size = bv4 at *
  refine (turned_ok (unhide B).2).mono ?_
  rintro e v5 ⟨q5, rfl, hr, hb⟩
  have hb2 := bal (o := .cells #[.int .i64 wa, .int .i64 wb, .slice (some ⟨q5, 0, none⟩) nb nb] 24) hb
  have An := hide ((unhide A).keep hb2)
  have Bn := hide ((unhide B).keep hb2)
  have Cn := hide ((unhide C).keep hb2)
  have Tn := hide ((unhide T).keep hb2)
  have Kn := hide ((unhide K).keep hb2)
  have ABn := hide ((unhide AB).keep hb2)
  have Sn := hide (btrans (unhide S) hb2)
  clear S A B C T K AB
  have A := An
  have B := Bn
  have C := Cn
  have T := Tn
  have K := Kn
  have AB := ABn
  have S := Sn
  clear Sn An Bn Cn Tn Kn ABn
  have U := hide (Tb.new hr)
  clear hb hb2 hr
  have cU := (unhide U).1.2
  have cT := (unhide T).1.2
  go_wp2_with fail
  clear cU cT
  generalize v5.alloc (.cells #[.int .i64 wa, .int .i64 wb, .slice (some ⟨q5, 0, none⟩) nb nb] 24) = xv5 at *
  generalize v5.heap.size = bv5 at *
  refine (prod_ok (unhide U).2 (unhide T).2 nab (by rw [unhide Hnab, Nat.mul_comm])).mono ?_
  rintro e v6 ⟨q6, rfl, hr, hb⟩
  have hb2 := bal (o := .cells #[.int .i64 ha, .int .i64 wb, .slice (some ⟨q6, 0, none⟩) nab nab] 24) hb
  have An := hide ((unhide A).keep hb2)
  have Bn := hide ((unhide B).keep hb2)
  have Cn := hide ((unhide C).keep hb2)
  have Tn := hide ((unhide T).keep hb2)
  have Kn := hide ((unhide K).keep hb2)
  have ABn := hide ((unhide AB).keep hb2)
  have Un := hide ((unhide U).keep hb2)
  have Sn := hide (btrans (unhide S) hb2)
  clear S A B C T K AB U
  have A := An
  have B := Bn
  have C := Cn
  have T := Tn
  have K := Kn
  have AB := ABn
  have U := Un
  have S := Sn
  clear Sn An Bn Cn Tn Kn ABn Un
  have X := hide (Tb.new hr)
  clear hb hb2 hr
  have cAB := (unhide AB).1.2
  go_wp2_with fail
  clear cAB
  generalize v6.alloc (.cells #[.int .i64 ha, .int .i64 wb, .slice (some ⟨q6, 0, none⟩) nab nab] 24) = xv6 at *
  generalize v6.heap.size = bv6 at *
  refine (turned_ok (unhide AB).2).mono ?_
  rintro e v7 ⟨q7, rfl, hr, hb⟩
  have hb2 := bal (o := .cells #[.int .i64 ha, .int .i64 wb, .slice (some ⟨q7, 0, none⟩) nab nab] 24) hb
  have An := hide ((unhide A).keep hb2)
  have Bn := hide ((unhide B).keep hb2)
  have Cn := hide ((unhide C).keep hb2)
  have Tn := hide ((unhide T).keep hb2)
  have Kn := hide ((unhide K).keep hb2)
  have ABn := hide ((unhide AB).keep hb2)
  have Un := hide ((unhide U).keep hb2)
  have Xn := hide ((unhide X).keep hb2)
  have Sn := hide (btrans (unhide S) hb2)
  clear S A B C T K AB U X
  have A := An
  have B := Bn
  have C := Cn
  have T := Tn
  have K := Kn
  have AB := ABn
  have U := Un
  have X := Xn
  have S := Sn
  clear Sn An Bn Cn Tn Kn ABn Un Xn
  have V := hide (Tb.new hr)
  clear hb hb2 hr
  have cX := (unhide X).1.2
  have cV := (unhide V).1.2
  go_wp2_with fail
  clear cX cV
  generalize v7.alloc (.cells #[.int .i64 ha, .int .i64 wb, .slice (some ⟨q7, 0, none⟩) nab nab] 24) = xv7 at *
  generalize v7.heap.size = bv7 at *
  refine (same_ok (unhide X).2 (unhide V).2 (fun j hj => pr_tu f g wa ha wb j (by rw [Nat.mul_comm, ← unhide Hnab]; exact hj))).mono ?_
  rintro e w8 ⟨rfl, hb⟩
  have An := hide ((unhide A).keep hb)
  have Bn := hide ((unhide B).keep hb)
  have Cn := hide ((unhide C).keep hb)
  have Tn := hide ((unhide T).keep hb)
  have Kn := hide ((unhide K).keep hb)
  have ABn := hide ((unhide AB).keep hb)
  have Un := hide ((unhide U).keep hb)
  have Xn := hide ((unhide X).keep hb)
  have Vn := hide ((unhide V).keep hb)
  have Sn := hide (btrans (unhide S) hb)
  clear S A B C T K AB U X V
  have A := An
  have B := Bn
  have C := Cn
  have T := Tn
  have K := Kn
  have AB := ABn
  have U := Un
  have X := Xn
  have V := Vn
  have S := Sn
  clear Sn An Bn Cn Tn Kn ABn Un Xn Vn
  clear hb
  have cB := (unhide B).1.2
  have cC := (unhide C).1.2
  go_wp2_with fail
  clear cB cC
  refine (prod_ok (unhide B).2 (unhide C).2 nbc (unhide Hnbc)).mono ?_
  rintro e v9 ⟨q9, rfl, hr, hb⟩
  have hb2 := bal (o := .cells #[.int .i64 wc, .int .i64 wa, .slice (some ⟨q9, 0, none⟩) nbc nbc] 24) hb
  have An := hide ((unhide A).keep hb2)
  have Bn := hide ((unhide B).keep hb2)
  have Cn := hide ((unhide C).keep hb2)
  have Tn := hide ((unhide T).keep hb2)
  have Kn := hide ((unhide K).keep hb2)
  have ABn := hide ((unhide AB).keep hb2)
  have Un := hide ((unhide U).keep hb2)
  have Xn := hide ((unhide X).keep hb2)
  have Vn := hide ((unhide V).keep hb2)
  have Sn := hide (btrans (unhide S) hb2)
  clear S A B C T K AB U X V
  have A := An
  have B := Bn
  have C := Cn
  have T := Tn
  have K := Kn
  have AB := ABn
  have U := Un
  have X := Xn
  have V := Vn
  have S := Sn
  clear Sn An Bn Cn Tn Kn ABn Un Xn Vn
  have BC := hide (Tb.new hr)
  clear hb hb2 hr
  have cAB := (unhide AB).1.2
  have cC := (unhide C).1.2
  go_wp2_with fail
  clear cAB cC
  generalize v9.alloc (.cells #[.int .i64 wc, .int .i64 wa, .slice (some ⟨q9, 0, none⟩) nbc nbc] 24) = xv9 at *
  generalize v9.heap.size = bv9 at *
  refine (prod_ok (unhide AB).2 (unhide C).2 nl (unhide Hnl)).mono ?_
  rintro e v10 ⟨q10, rfl, hr, hb⟩
  have hb2 := bal (o := .cells #[.int .i64 wc, .int .i64 ha, .slice (some ⟨q10, 0, none⟩) nl nl] 24) hb
  have An := hide ((unhide A).keep hb2)
  have Bn := hide ((unhide B).keep hb2)
  have Cn := hide ((unhide C).keep hb2)
  have Tn := hide ((unhide T).keep hb2)
  have Kn := hide ((unhide K).keep hb2)
  have ABn := hide ((unhide AB).keep hb2)
  have Un := hide ((unhide U).keep hb2)
  have Xn := hide ((unhide X).keep hb2)
  have Vn := hide ((unhide V).keep hb2)
  have BCn := hide ((unhide BC).keep hb2)
  have Sn := hide (btrans (unhide S) hb2)
  clear S A B C T K AB U X V BC
  have A := An
  have B := Bn
  have C := Cn
  have T := Tn
  have K := Kn
  have AB := ABn
  have U := Un
  have X := Xn
  have V := Vn
  have BC := BCn
  have S := Sn
  clear Sn An Bn Cn Tn Kn ABn Un Xn Vn BCn
  have L := hide (Tb.new hr)
  clear hb hb2 hr
  have cA := (unhide A).1.2
  have cBC := (unhide BC).1.2
  go_wp2_with fail
  clear cA cBC
  generalize v10.alloc (.cells #[.int .i64 wc, .int .i64 ha, .slice (some ⟨q10, 0, none⟩) nl nl] 24) = xv10 at *
  generalize v10.heap.size = bv10 at *
  refine (prod_ok (unhide A).2 (unhide BC).2 nl (unhide Hnl)).mono ?_
  rintro e v11 ⟨q11, rfl, hr, hb⟩
  have hb2 := bal (o := .cells #[.int .i64 wc, .int .i64 ha, .slice (some ⟨q11, 0, none⟩) nl nl] 24) hb
  have An := hide ((unhide A).keep hb2)
  have Bn := hide ((unhide B).keep hb2)
  have Cn := hide ((unhide C).keep hb2)
  have Tn := hide ((unhide T).keep hb2)
  have Kn := hide ((unhide K).keep hb2)
  have ABn := hide ((unhide AB).keep hb2)
  have Un := hide ((unhide U).keep hb2)
  have Xn := hide ((unhide X).keep hb2)
  have Vn := hide ((unhide V).keep hb2)
  have BCn := hide ((unhide BC).keep hb2)
  have Ln := hide ((unhide L).keep hb2)
  have Sn := hide (btrans (unhide S) hb2)
  clear S A B C T K AB U X V BC L
  have A := An
  have B := Bn
  have C := Cn
  have T := Tn
  have K := Kn
  have AB := ABn
  have U := Un
  have X := Xn
  have V := Vn
  have BC := BCn
  have L := Ln
  have S := Sn
  clear Sn An Bn Cn Tn Kn ABn Un Xn Vn BCn Ln
  have R := hide (Tb.new hr)
  clear hb hb2 hr
  have cL := (unhide L).1.2
  have cR := (unhide R).1.2
  go_wp2_with fail
  clear cL cR
  generalize v11.alloc (.cells #[.int .i64 wc, .int .i64 ha, .slice (some ⟨q11, 0, none⟩) nl nl] 24) = xv11 at *
  generalize v11.heap.size = bv11 at *
  refine (same_ok (unhide L).2 (unhide R).2 (fun j hj => pr_assoc f g k wa wb wc j (pos_of_lt (show j < wc * ha by rw [← unhide Hnl]; exact hj)).1)).mono ?_
  rintro e w12 ⟨rfl, hb⟩
  have An := hide ((unhide A).keep hb)
  have Bn := hide ((unhide B).keep hb)
  have Cn := hide ((unhide C).keep hb)
  have Tn := hide ((unhide T).keep hb)
  have Kn := hide ((unhide K).keep hb)
  have ABn := hide ((unhide AB).keep hb)
  have Un := hide ((unhide U).keep hb)
  have Xn := hide ((unhide X).keep hb)
  have Vn := hide ((unhide V).keep hb)
  have BCn := hide ((unhide BC).keep hb)
  have Ln := hide ((unhide L).keep hb)
  have Rn := hide ((unhide R).keep hb)
  have Sn := hide (btrans (unhide S) hb)
  clear S A B C T K AB U X V BC L R
  have A := An
  have B := Bn
  have C := Cn
  have T := Tn
  have K := Kn
  have AB := ABn
  have U := Un
  have X := Xn
  have V := Vn
  have BC := BCn
  have L := Ln
  have R := Rn
  have S := Sn
  clear Sn An Bn Cn Tn Kn ABn Un Xn Vn BCn Ln Rn
  clear hb
  go_wp2
  go_ret
  exact ⟨rfl, unhide S⟩

theorem rt_of {W : World} {w h : Int} {p : Option Addr} {n cap : Nat} {f : Nat → Bool} (hb : Bs W p n cap f) (he : wE w h n = 0) : ∃ w' h' : Nat, w = w' ∧ h = h' ∧ Rt W w' h' p n cap f := by
  obtain ⟨w', h', rfl, rfl, h1, h2, h3⟩ := wE_zero w h n he
  exact ⟨w', h', rfl, rfl, h1, h2, h3, hb⟩
theorem pE_zero {w h : Int} {n : Nat} {w2 h2 : Int} {n2 : Nat} (he : pE w h n w2 h2 n2 = 0) : wE w h n = 0 ∧ wE w2 h2 n2 = 0 ∧ w = h2 := by
  unfold pE at he
  split at he
  · rename_i e1
    split at he
    · rename_i e2
      split at he
      · rename_i e3; exact ⟨e1, e2, e3⟩
      · omega
    · rename_i e2; exact absurd he e2
  · rename_i e1; exact absurd he e1
theorem prods_any (w h : Int) (p : Option Addr) (n cap : Nat) (f : Nat → Bool) (w2 h2 : Int) (p2 : Option Addr) (n2 cap2 : Nat) (g : Nat → Bool) (w3 h3 : Int) (p3 : Option Addr) (n3 cap3 : Nat) (k : Nat → Bool) (W : World) (ha : Bs W p n cap f) (hb : Bs W p2 n2 cap2 g) (hc : Bs W p3 n3 cap3 k) : ProdsIs w h p n cap w2 h2 p2 n2 cap2 w3 h3 p3 n3 cap3 W := by
  by_cases e1 : wE w h n = 0
  · obtain ⟨wa, hh, rfl, rfl, ra⟩ := rt_of ha e1
    by_cases e2 : pE wa hh n w2 h2 n2 = 0
    · obtain ⟨-, e3, e4⟩ := pE_zero e2
      obtain ⟨wb, h2', rfl, rfl, rb⟩ := rt_of hb e3
      obtain rfl : wa = h2' := by omega
      by_cases e5 : pE wb wa n2 w3 h3 n3 = 0
      · obtain ⟨-, e6, e7⟩ := pE_zero e5
        obtain ⟨wc, h3', rfl, rfl, rc⟩ := rt_of hc e6
        obtain rfl : wb = h3' := by omega
        exact lp_d wa hh wb wc p n cap f p2 n2 cap2 g p3 n3 cap3 k W ra rb rc
      · exact lp_c wa hh wb p n cap f p2 n2 cap2 g w3 h3 p3 n3 cap3 W ra rb e5
    · exact lp_b wa hh p n cap f w2 h2 p2 n2 cap2 w3 h3 p3 n3 cap3 W ra e2
  · exact lp_a w h p n cap w2 h2 p2 n2 cap2 w3 h3 p3 n3 cap3 W e1
end Go.Proofs.Ytppnfafmgkpnnaa
