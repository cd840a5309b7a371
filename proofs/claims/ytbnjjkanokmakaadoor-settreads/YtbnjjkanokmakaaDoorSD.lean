/-
  Threads of package sett.
-/
import Derived.Test.YtbnjjkanokmakaaDoorSC
namespace Go.Proofs.YtbnjjkanokmakaaDoor
open Go.RowKit

/-- numbers, as a row has them -/
def zsV (l : List Int) : List Value := l.map fun c => Value.int .i64 c
theorem zsV_app (l m : List Int) : zsV (l ++ m) = zsV l ++ zsV m := by simp [zsV]
theorem zsV_len (l : List Int) : (zsV l).length = l.length := by simp [zsV]
theorem zsV_one (c : Int) : ∀ u ∈ zsV [c], u.oneCell' = true := by
  intro u hu
  simp [zsV] at hu
  rw [hu]; rfl
/-- numbers in a row of one's own -/
def ZR (W : World) (B : Nat) (v : Value) (l : List Int) : Prop := W.ownsRow B 3 1 v l.length (zsV l)
theorem ZR.keep {W V : World} {B : Nat} {v : Value} {l : List Int} (h : ZR W B v l) (hb : Below W.heap.size W V) : ZR V B v l := own_keep h hb
theorem ZR.le {W : World} {B C : Nat} {v : Value} {l : List Int} (h : ZR W B v l) (hc : C ≤ B) : ZR W C v l := own_le h hc
theorem ZR.form {W : World} {B : Nat} {v : Value} {l : List Int} (h : ZR W B v l) : ∃ q cap, v = .slice q l.length cap := own_form h
theorem ZR.nil (W : World) (B : Nat) : ZR W B (.slice none 0 0) [] := World.ownsRow_nil _ _ _ _
theorem ZR.il {W : World} {B cap n : Nat} {q : Option Addr} {l : List Int} (h : ZR W B (.slice q n cap) l) : n = l.length ∧ Il W q l := by
  obtain ⟨q', c', e⟩ := h.form
  have en : n = l.length := by injection e
  subst en
  refine ⟨rfl, ?_⟩
  have h : W.ownsRow B 3 1 (.slice q l.length cap) l.length (zsV l) := h
  by_cases h0 : l.length = 0
  · exact .inl h0
  · obtain ⟨g, cap', e⟩ := own_slice h (by omega)
    injection e with e1 e2 e3
    subst e1
    have hl := (World.ownsRow.lt h g rfl).2
    refine .inr ⟨g, 0, rfl, hl, fun k hk => ?_⟩
    rw [Nat.zero_add, World.ownsRow.cellAt h k (by omega)]
    simp [zsV, hk]

/-- threads and an error are told -/
def ThIs (W : World) (pv : Bool) (l : List St) (e : Ending) (V : World) : Prop := if wE pv l = 0 then ∃ v, e = .returned (.tuple #[v, .int .i64 0]) ∧ ZR V W.heap.size v (thr (onL pv l)) ∧ Below W.heap.size W V else e = .returned (.tuple #[.slice none 0 0, .int .i64 (wE pv l)]) ∧ Below W.heap.size W V
theorem ThIs.bad {W V : World} {pv : Bool} {l : List St} (h : wE pv l ≠ 0) (hb : Below W.heap.size W V) : ThIs W pv l (.returned (.tuple #[.slice none 0 0, .int .i64 (wE pv l)])) V := by
  unfold ThIs; rw [if_neg h]; exact ⟨rfl, hb⟩
theorem ThIs.good {W V : World} {pv : Bool} {l : List St} {v : Value} (h : wE pv l = 0) (hz : ZR V W.heap.size v (thr (onL pv l))) (hb : Below W.heap.size W V) : ThIs W pv l (.returned (.tuple #[v, .int .i64 0])) V := by
  unfold ThIs; rw [if_pos h]; exact ⟨v, rfl, hz, hb⟩
theorem thr_part (L : List St) (x : Nat) (hx : x < L.length) : (thr (L.take x)).length + (cb L x).toNat ≤ (thr L).length := by
  have e := thr_take L hx
  have e2 : L = L.take (x + 1) ++ L.drop (x + 1) := by simp
  conv => rhs; rw [e2, thr_app, List.length_append, e, List.length_append]
  simp
theorem thr_size {pv : Bool} {l : List St} (h : Ok pv l) : (thr (onL pv l)).length ≤ 4096 := by
  have h1 := thr_len (onL pv l) (fun x hx => by
    have := onL_each (pv := pv) (l := l) (P := fun x => 1 ≤ x.2) (fun j hj => (h.each j hj).2.1) x hx
    omega)
  have := h.much
  omega

set_option maxRecDepth 100000 in
theorem threads_bad (pv : Bool) (q : Option Addr) (l : List St) (cap : Nat) (W : World) (hP : Sl W q l) (he : wE pv l ≠ 0) : Calls Tryd.prog 12 #[sV pv q l.length cap] W (ThIs W pv l) := by
  have HC := hide (fun V (hb : Below W.heap.size W V) => wrong_any pv q l cap V (hP.keep hb))
  have Hf := hide (fun V (hb : Below W.heap.size W V) => ThIs.bad he hb)
  have h1 : (wE pv l != 0) = true := by simpa using he
  have HB := hide (BS.new W pv (.slice q l.length cap) 24)
  have Hb := hide (bnew W (.cells #[.bool pv, .slice q l.length cap] 24))
  unfold sV at *
  clear hP he
  generalize wE pv l = r at *
  generalize l.length = n at *
  go_enter Tryd.func12, Tryd.ntmps12
  go_upto_region 1 with fail
  generalize W.alloc (.cells #[.bool pv, .slice q n cap] 24) = w1 at *
  generalize hbx : W.heap.size = bx at *
  obtain ⟨hlx, c0, c1⟩ := unhide HB
  have hbb := unhide Hb
  go_wp2_with fail
  refine (unhide HC _ hbb).mono ?_
  rintro e w2 ⟨rfl, hb2⟩
  go_wp2
  exact bodyPost_ret (v := .tuple #[.slice none 0 0, .int .i64 r]) (by simp [results, Tryd.results12, go_sem]) rfl (unhide Hf _ (hbb.trans (hb2.mono (by omega))))

set_option maxRecDepth 100000 in
set_option maxHeartbeats 4000000 in
theorem threads_ok (pv : Bool) (q : Option Addr) (l : List St) (cap : Nat) (W : World) (hP : Sl W q l) (he : wE pv l = 0) : Calls Tryd.prog 12 #[sV pv q l.length cap] W (ThIs W pv l) := by
  have hok := ok_of he
  have hany : l.any byd = false := any_none fun k hk => by have := hok.each k hk; simp [byd]; omega
  have HC := hide (fun V (hb : Below W.heap.size W V) => wrong_any pv q l cap V (hP.keep hb))
  rw [he] at HC
  have HO := hide (fun V (hb : Below W.heap.size W V) => show Calls Tryd.prog 25 #[sV pv q l.length cap] V fun e V' => ∃ v, e = .returned v ∧ SR V' V.heap.size v (onL pv l) ∧ Below V.heap.size V V' from once_any pv q l cap V (hP.keep hb) hok.few hok.two)
  have Hf := hide (fun V v (hz : ZR V W.heap.size v (thr (onL pv l))) (hb : Below W.heap.size W V) => ThIs.good he hz hb)
  have Hcb := hide (onL_cb pv l hany)
  have Hpt := hide (thr_part (onL pv l))
  have Htt := hide (fun k (hk : k < (onL pv l).length) => thr_take (onL pv l) hk)
  have Hsz := hide (thr_size hok)
  have Hm9 := hide (show ∀ m : Nat, (onL pv l).length = m → m ≤ 4294967296 from fun m e => by have := onL_len pv l; have := hok.few; omega)
  have HB := hide (BS.new W pv (.slice q l.length cap) 24)
  have Hb := hide (bnew W (.cells #[.bool pv, .slice q l.length cap] 24))
  unfold sV at *
  clear hP he hok hany
  generalize l.length = n at *
  generalize onL pv l = L at *
  go_enter Tryd.func12, Tryd.ntmps12
  go_upto_region 1 with fail
  generalize W.alloc (.cells #[.bool pv, .slice q n cap] 24) = w1 at *
  generalize hbx : W.heap.size = bx at *
  obtain ⟨hlx, c0, c1⟩ := unhide HB
  have hbb := unhide Hb
  go_wp2_with fail
  refine (unhide HC _ hbb).mono ?_
  rintro e w2 ⟨rfl, hb2⟩
  have Hb2 := hide (hbb.trans (hb2.mono (by omega : bx ≤ w1.heap.size)))
  have HB2 := hide ((unhide HB).keep hb2)
  clear hb2 hbb c0 c1 hlx HB Hb HC
  obtain ⟨hlx, c0, c1⟩ := unhide HB2
  go_wp2_with fail
  refine (unhide HO _ (unhide Hb2)).mono ?_
  rintro e w3 ⟨v3, rfl, hO3, hb3⟩
  obtain ⟨q3, cap3, rfl⟩ := hO3.form
  obtain ⟨m, hm⟩ : ∃ m, L.length = m := ⟨_, rfl⟩
  have HS3 := hide (show Ps w3 q3 m (ca L) (cb L) by rw [← hm]; exact hO3.sl.2)
  have Htk := hide (show thr (L.take m) = thr L by rw [← hm, List.take_length])
  rw [hm] at Hcb Hpt Htt ⊢
  have Hb3 := hide ((unhide Hb2).trans (hb3.mono (by omega : bx ≤ w2.heap.size)))
  have hmm : m ≤ 4294967296 := unhide Hm9 m hm
  clear hO3 hb3 c0 c1 hlx HB2 Hb2 HO hm Hm9
  go_wp2
  go_loopw [5, 16] (fun ov i wr => ∃ (x cp : Nat) (qo : Option Addr), x ≤ m ∧ i = .int .i64 (x : Int) ∧ ov = .slice qo (thr (L.take x)).length cp ∧ ZR wr w3.heap.size (.slice qo (thr (L.take x)).length cp) (thr (L.take x)) ∧ Below w3.heap.size w3 wr) (fun _ i _ => m - (intOf i).toNat)
  case atStart => exact ⟨0, 0, none, by omega, rfl, rfl, ZR.nil _ _, Below.refl _ _⟩
  case round =>
    obtain ⟨x, cp, qo, hx, rfl, rfl, hZ, hb⟩ := hrel
    by_cases hlt : x < m
    · obtain ⟨ad0, oo, rfl, k0, k1⟩ := ((unhide HS3).keep hb).at hlt
      have q0 : (x : Int) < (m : Int) := by omega
      have q1 : (0 : Int) ≤ (x : Int) := by omega
      have B := hide (B2.new wr (ca L x) (cb L x) 45)
      have HT := hide (Tg.new wr #[.int .i64 (ca L x), .int .i64 (cb L x)] 45)
      have Hbw := hide (hb.trans ((bnew wr (.cells #[.int .i64 (ca L x), .int .i64 (cb L x)] 45)).mono hb.size))
      have HZ := hide (hZ.keep (bnew wr (.cells #[.int .i64 (ca L x), .int .i64 (cb L x)] 45)))
      have hs2 := unhide Hcb x hlt
      have hpt := unhide Hpt x hlt
      have Ht1 := hide (unhide Htt x hlt)
      have hsz := unhide Hsz
      obtain ⟨c, hc⟩ : ∃ c : Nat, cb L x = c := ⟨(cb L x).toNat, by omega⟩
      rw [hc] at B HT Hbw HZ hs2 hpt Ht1 k1
      have hcn : ((c : Nat) : Int).toNat = c := by omega
      rw [hcn] at hpt Ht1
      obtain ⟨T, hT⟩ : ∃ T, thr (L.take x) = T := ⟨_, rfl⟩
      rw [hT] at HZ Ht1 hpt
      rw [hT]
      obtain ⟨k, hk⟩ : ∃ k, T.length = k := ⟨_, rfl⟩
      rw [hk] at HZ hpt
      rw [hk]
      have hk9 : k + c ≤ 4096 := by omega
      have Hk := hide hk
      clear hb hZ hc hcn hT hs2 hpt hsz hk
      generalize ca L x = u at *
      go_upto_region 8 with fail
      generalize wr.alloc (.cells #[.int .i64 u, .int .i64 (c : Int)] 45) = w4 at *
      generalize wr.heap.size = n6 at *
      clear k0 k1
      obtain ⟨hl4, c0, c1⟩ := unhide B
      go_wp2
      clear hl4 c0 c1
      go_loopw [5, 22] (fun ov i wv => ∃ (y cp : Nat) (qo : Option Addr), y ≤ c ∧ i = .int .i64 (y : Int) ∧ ov = .slice qo (k + y) cp ∧ wv.ownsRow w3.heap.size 3 1 (.slice qo (k + y) cp) (k + y) (zsV (T ++ List.replicate y u)) ∧ B2 wv n6 u (c : Int) ∧ Tg wv n6 45 ∧ Below w3.heap.size w3 wv) (fun _ i _ => c - (intOf i).toNat)
      case atStart => exact ⟨0, cp, qo, by omega, rfl, rfl, by rw [List.replicate_zero, List.append_nil]; have h0 := unhide HZ; unfold ZR at h0; rw [unhide Hk] at h0; exact h0, unhide B, unhide HT, unhide Hbw⟩
      case round =>
        clear HZ B HT Hbw
        obtain ⟨y, cp, qo, hy, rfl, rfl, hZ, hB, hT, hb⟩ := hrel
        by_cases hly : y < c
        · have q2 : (y : Int) < (c : Int) := by omega
          obtain ⟨hl4, c0, c1⟩ := hB
          have Lr := hide (own_lit (B := w3.heap.size) (e := 3) (z := 1) (k := 1) wr #[.int .i64 u] hb.size (by unfold maxLen; omega) rfl)
          have HO2 := hide (own_keep hZ (bnew wr (.cells #[.int .i64 u] 3)))
          have HB2 := hide (hb.trans ((bnew wr (.cells #[.int .i64 u] 3)).mono hb.size))
          have HX2 := hide (B2.keep ⟨hl4, c0, c1⟩ (bnew wr (.cells #[.int .i64 u] 3)))
          have HT2 := hide (hT.kept (S := fun _ => False) (Kept.of (bnew wr (.cells #[.int .i64 u] 3))) hl4 (fun q => q))
          have Hone := hide (zsV_one u)
          have Hfin := hide (fun (v' : Value) (w' : World) (h : w'.ownsRow w3.heap.size 3 1 v' (k + y + 1) (zsV (T ++ List.replicate y u) ++ [.int .i64 u])) => show w'.ownsRow w3.heap.size 3 1 v' (k + (y + 1)) (zsV (T ++ List.replicate (y + 1) u)) by
            rw [List.replicate_succ', ← List.append_assoc, zsV_app (T ++ List.replicate y u)]
            exact h)
          clear hZ hb hT hl4
          go_wp2_with (at_builtin; refine wl_app rfl rfl Tryd.underlying32 info3 rfl (by decide) (B := w3.heap.size) (C := w3.heap.size) (n := k + y) (m := 1) rfl rfl (unhide HO2) (unhide Lr) (unhide Hone) (by unfold maxLen; omega) (by omega) (unhide HB2).size ?_)
          intro v5 w5 ho5 hg5 he5
          have kp : Kept (fun i => (Value.slice qo (k + y) cp).ownBlock = some i) (wr.alloc (.cells #[.int .i64 u] 3)) w5 := grown_kept hg5 (fun r e => .inl e)
          have hne : ¬ ((Value.slice qo (k + y) cp).ownBlock = some n6) := fun e => by
            have := own_tg (unhide HO2) e
            exact tg_not this (by decide) (unhide HT2)
          have HX3 := hide (show B2 w5 n6 u (c : Int) from ⟨Nat.lt_of_lt_of_le (unhide HX2).1 kp.size, kp.cell (unhide HX2).1 hne (unhide HX2).2.1, kp.cell (unhide HX2).1 hne (unhide HX2).2.2⟩)
          have HT3 := hide ((unhide HT2).kept kp (unhide HX2).1 hne)
          have HB3 := hide ((unhide HB2).grown hg5 (unhide HB2).size (fun _ e => ((unhide HO2).lt _ e).1))
          have HO3 := hide (unhide Hfin _ _ ho5)
          clear ho5 hg5 he5 HO2 HB2 Lr Hfin Hone kp hne HX2 HT2 c0 c1
          obtain ⟨q3', cap3', rfl⟩ := own_form (unhide HO3)
          go_wp2
          go_roundw
          case rel => exact ⟨y + 1, cap3', q3', by omega, by go_num, rfl, unhide HO3, unhide HX3, unhide HT3, unhide HB3⟩
          case measure => simp [intOf]; omega
        · obtain rfl : y = c := by omega
          have cl : ¬ ((y : Int) < (y : Int)) := by omega
          have Hl1 := hide (show (thr (L.take (x + 1))).length = k + y by rw [unhide Ht1, List.length_append, unhide Hk, List.length_replicate])
          have HZ2 := hide (show ZR wr w3.heap.size (.slice qo (k + y) cp) (thr (L.take (x + 1))) from by
            unfold ZR
            rw [unhide Hl1, unhide Ht1]
            exact hZ)
          have Hbx := hide hb
          clear hZ hB hT hb
          go_wp2
          go_roundw
          case rel => exact ⟨x + 1, cp, qo, by omega, by go_num, by rw [unhide Hl1], by rw [unhide Hl1]; exact unhide HZ2, unhide Hbx⟩
          case measure => simp [intOf]; omega
    · obtain rfl : x = m := by omega
      have cl : ¬ ((x : Int) < (x : Int)) := by omega
      have Hb9 := hide (show Below bx W wr from (unhide Hb3).trans (hb.mono (by have := (unhide Hb3).size; omega)))
      have HZ9 := hide (hZ.le (show bx ≤ w3.heap.size by have := (unhide Hb3).size; omega))
      clear hb hZ
      rw [unhide Htk] at HZ9 ⊢
      generalize (thr L).length = nn at *
      go_wp2
      exact bodyPost_ret (v := .tuple #[.slice qo nn cp, .int .i64 0]) (by simp [results, Tryd.results12, go_sem]) rfl (unhide Hf _ _ (unhide HZ9) (unhide Hb9))
end Go.Proofs.YtbnjjkanokmakaaDoor
