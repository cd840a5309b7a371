/-
  The reference's Read.
-/
import Derived.Test.YtbnjjkanokmakaaDoorRK
import Derived.Test.YtbnjjkanokmakaaDoorSH
import Derived.Deep.DeepCutAuto
import Derived.Deep.CutBlock
namespace Go.Proofs.YtbnjjkanokmakaaDoor
open Go.RowKit

theorem rE_of {s : ByteArray} {er : Int} {at' : Nat} {acc : List St} (hl : ¬ 65536 < s.size) (h : rdS s = (er, at', acc)) (he : er ≠ 0) : rE s = (er, at') := by
  have := rdE_bad h he
  rw [rE_bad hl (by rw [this]; exact he), this]
theorem by1_no {s : ByteArray} {p : Nat} (b : UInt8) (h : ¬ p < s.size) : by1 s p b = false := by1_end (by omega)

theorem rE_of2 {s : ByteArray} {er : Int} {at' : Nat} (hl : ¬ 65536 < s.size) (h : rdE s = (er, at')) (he : er ≠ 0) : rE s = (er, at') := by
  rw [rE_bad hl (by rw [h]; exact he), h]
theorem rdE_a {s : ByteArray} {p : Nat} {acc : List St} (h : rdS s = (0, p, acc)) (hpv : pvS s = false) (hz : ¬ p < s.size) : rdE s = (0, 0) := by
  rw [rdE_go h, if_neg (by rw [hpv]; decide), if_neg hz]
theorem rdE_b {s : ByteArray} {p : Nat} {acc : List St} (h : rdS s = (0, p, acc)) (hpv : pvS s = true) (hb : by1 s p 47 = false) : rdE s = (2, p) := by
  rw [rdE_go h, if_pos hpv, if_neg (by rw [hb]; decide)]
theorem rdE_c {s : ByteArray} {p : Nat} {acc : List St} (h : rdS s = (0, p, acc)) (hpv : pvS s = true) (hb : by1 s p 47 = true) (hz : p + 1 < s.size) : rdE s = (2, p + 1) := by
  rw [rdE_go h, if_pos hpv, if_pos hb, if_pos hz]
theorem rdE_d {s : ByteArray} {p : Nat} {acc : List St} (h : rdS s = (0, p, acc)) (hpv : pvS s = true) (hb : by1 s p 47 = true) (hz : ¬ p + 1 < s.size) : rdE s = (0, 0) := by
  rw [rdE_go h, if_pos hpv, if_pos hb, if_neg hz]
theorem rdE_e {s : ByteArray} {p : Nat} {acc : List St} (h : rdS s = (0, p, acc)) (hpv : pvS s = false) (hz : p < s.size) : rdE s = (2, p) := by
  rw [rdE_go h, if_neg (by rw [hpv]; decide), if_pos hz]
theorem rdE_f {s : ByteArray} {p : Nat} {acc : List St} (h : rdS s = (0, p, acc)) (hb : by1 s p 47 = false) (hz : p < s.size) : rdE s = (2, p) := by
  cases hpv : pvS s with
  | true => exact rdE_b h hpv hb
  | false => exact rdE_e h hpv hz
theorem cE_none {d : List UInt8} (h : d.length = 0) : cE d = 2 := by
  unfold cE
  rw [if_pos (.inl (List.eq_nil_of_length_eq_zero h))]
theorem cE_zero {d : List UInt8} {b : UInt8} (h : d[0]? = some b) (hb : b.toNat = 48) : cE d = 2 := by
  have e : b = 48 := UInt8.toNat_inj.1 hb
  unfold cE
  rw [if_pos (.inr (by rw [List.head?_eq_getElem?, h, e]))]
theorem cE_num {d : List UInt8} {b : UInt8} (h : d[0]? = some b) (hb : b.toNat ≠ 48) : cE d = if 4096 < cpf d then 3 else 0 := by
  have h1 : ¬ (d = [] ∨ d.head? = some 48) := by
    rintro (e | e)
    · rw [e] at h; cases h
    · rw [List.head?_eq_getElem?, h] at e
      exact hb (by rw [Option.some.inj e]; rfl)
  unfold cE
  rw [if_neg h1]
  obtain ⟨k1, k2⟩ := cpf_num d
  by_cases hc : 4096 < cpf d
  · rw [if_pos hc, if_pos (k2 hc)]
  · rw [if_neg hc, if_neg (by rw [k1 (by omega)]; exact hc)]

set_option maxRecDepth 100000 in
set_option maxHeartbeats 20000000 in
theorem rread_any (W : World) (s : ByteArray) : Calls Tryd.prog 8 #[.string s] W (ReIs W s) := by
  have Hbad := hide (fun V er at' (h : rE s = (er, at')) he (h1 : Bl W V) => ReIs.bad (W := W) (V := V) h he h1)
  have Hgood := hide (fun V q cap (h : (rE s).1 = 0) (h1 : Bl W V) h2 => ReIs.good (W := W) (V := V) (q := q) (cap := cap) h h1 h2)
  have b1 := bnew W (.cells #[.bool false, .slice none 0 0] 24)
  have b2 := bnew (W.alloc (.cells #[.bool false, .slice none 0 0] 24)) (.cells #[.int .i64 0, .int .i64 0] 27)
  have b3 := bnew ((W.alloc (.cells #[.bool false, .slice none 0 0] 24)).alloc (.cells #[.int .i64 0, .int .i64 0] 27)) (.cells #[.int .i64 0] 3)
  have HS0 := (show ReS W W.heap.size (W.heap.size + 1) ((W.alloc (.cells #[.bool false, .slice none 0 0] 24)).alloc (.cells #[.int .i64 0, .int .i64 0] 27)) from ⟨b1.trans (b2.mono b1.size), (BSx.new W false (.slice none 0 0) 24).keep b2, by
    have := Bx.new (W.alloc (.cells #[.bool false, .slice none 0 0] 24)) 0 0 27
    rwa [show (W.alloc (.cells #[.bool false, .slice none 0 0] 24)).heap.size = W.heap.size + 1 by simp] at this⟩)
  have HS2 := hide (HS0.keep b3)
  have hO := Oz.new ((W.alloc (.cells #[.bool false, .slice none 0 0] 24)).alloc (.cells #[.int .i64 0, .int .i64 0] 27)) 0 3
  rw [show ((W.alloc (.cells #[.bool false, .slice none 0 0] 24)).alloc (.cells #[.int .i64 0, .int .i64 0] 27)).heap.size = W.heap.size + 1 + 1 by simp] at hO
  have HO2 := hide hO
  have Hsz2 := hide (show (((W.alloc (.cells #[.bool false, .slice none 0 0] 24)).alloc (.cells #[.int .i64 0, .int .i64 0] 27)).alloc (.cells #[.int .i64 ((0 : Nat) : Int)] 3)).heap.size = W.heap.size + 1 + 1 + 1 by simp)
  clear b1 b2 b3 HS0 hO
  go_enter Tryd.func8, Tryd.ntmps8
  go_upto_region 3 with fail
  rw [show (((0 : Nat) : Int)) = 0 from rfl] at Hsz2
  generalize hw3 : ((W.alloc (.cells #[.bool false, .slice none 0 0] 24)).alloc (.cells #[.int .i64 0, .int .i64 0] 27)).alloc (.cells #[.int .i64 0] 3) = w3 at *
  have HS3 := HS2
  have HO3 := HO2
  clear hw3 HS2 HO2
  generalize hb2 : W.heap.size = n2 at *
  generalize hb3 : n2 + 1 = n3 at *
  generalize hb4 : n3 + 1 = n4 at *
  have nn1 : n2 ≠ n3 := by omega
  have Hb2 := hide (show W.heap.size ≤ n2 by omega)
  have Hb3 := hide (show W.heap.size ≤ n3 by omega)
  have Hnn := hide nn1
  have Hlt := hide (show n2 < n3 ∧ n3 < n4 ∧ n4 < w3.heap.size by have := unhide Hsz2; omega)
  clear hb2 hb3 hb4 Hsz2 nn1
  by_cases hlong : 65536 < s.size
  · have q0 : (65536 : Int) < (s.size : Int) := by omega
    have HRS := hide (unhide HS3)
    have HOZ := hide (unhide HO3)
    have HE := hide (show rE s = (4, 0) from rE_long hlong)
    go_wp2_with (go_at_call 21; refine (bad_any _ _ 0 4 (unhide HOZ)).mono ?_; rintro e' wz ⟨rfl, hbz⟩; have HSz := hide ((unhide HRS).keep hbz); obtain ⟨U, hU, r1, r2, u0, u1, u2, u3⟩ := (unhide HSz).fill (unhide Hb2) (unhide Hb3) (unhide Hnn) false (.slice none 0 0) 4 (0 : Int); obtain ⟨-, ⟨⟨-, x0, x1⟩, fx⟩, ⟨⟨-, y0, y1⟩, fy⟩⟩ := unhide HSz; have fx0 := fx 0; have fx1 := fx 1; have fy0 := fy 0; have fy1 := fy 1; have R1 := hide r1; have nn1 := unhide Hnn; have nn2 := nn1.symm; clear fx fy r1 r2)
    refine bodyPost_ret (v := .tuple #[sV false none 0 0, .agg #[.int .i64 4, .int .i64 (0 : Int)]]) (by simp [results, Tryd.results8, sV, go_sem, u0, u1, u2, u3]) rfl ?_
    exact unhide Hbad _ 4 0 (unhide HE) (by decide) (unhide R1)
  · have q0 : ¬ (65536 : Int) < (s.size : Int) := by omega
    have Hlong := hide hlong
    clear hlong
    by_cases h0 : 0 < s.size
    · have d0 : (0 : Int) < (s.size : Int) := by omega
      go_upto_if 31 with fail
      have b6 := bnew w3 (.cells #[.bool false, .slice none 0 0] 24)
      have hS6 := BSx.new w3 false (.slice none 0 0) 24
      have HQ := hide (show QS W n2 n3 n4 w3.heap.size (w3.heap.size + 1) false 0 none 0 [] (w3.alloc (.cells #[.bool false, .slice none 0 0] 24)) from ⟨((unhide HS3).keep b6).1, ⟨((unhide HS3).keep b6).2.1, ((unhide HS3).keep b6).2.2, (unhide HO3).keep b6, hS6⟩, SR.nil _ _, by simp⟩)
      have HO := hide (show QO W n2 n3 n4 w3.heap.size (w3.heap.size + 1) from ⟨unhide Hb2, (unhide Hlt).1, (unhide Hlt).2.1, (unhide Hlt).2.2, by omega⟩)
      clear b6 hS6 HS3 HO3 Hlt
      generalize w3.alloc (.cells #[.bool false, .slice none 0 0] 24) = w4 at *
      generalize hB : w3.heap.size + 1 = B at *
      generalize w3.heap.size = n6 at *
      clear hB
      go_cut [] (fun wd => QS W n2 n3 n4 n6 B (pvS s) (a0S s) none 0 [] wd)
      case first => as_aux_lemma =>
        have hby := by1_at (s := s) (p := 0) 47 h0
        cases hpv : by1 s 0 47 with
        | true =>
          rw [hby] at hpv
          have hpv2 : ((((s[0]'h0).toNat : Nat) : Int) == 47) = true := hpv
          have HN := hide ((((unhide HQ).pivot (unhide HO)).put (unhide HO) 1))
          have hP : pvS s = true := by unfold pvS; rw [hby]; exact hpv
          have hA : a0S s = 1 := by unfold a0S; rw [if_pos hP]
          obtain ⟨-, ⟨-, -, ⟨-, o0, o1⟩, ⟨⟨-, s0, s1⟩, fz⟩⟩, -, -⟩ := unhide HQ
          have f0 := fz 0
          have f1 := o1 0
          have ne1 : n6 ≠ n4 := by have := unhide HO; unfold QO at this; omega
          have ne2 : n4 ≠ n6 := ne1.symm
          clear fz o1 hpv hby
          go_wp2
          go_meet
          case rel => rw [hP, hA]; exact unhide HN
        | false =>
          rw [hby] at hpv
          have hpv2 : ((((s[0]'h0).toNat : Nat) : Int) == 47) = false := hpv
          have hP : pvS s = false := by unfold pvS; rw [hby]; exact hpv
          have hA : a0S s = 0 := by unfold a0S; rw [if_neg (by rw [hP]; decide)]
          clear hpv hby
          go_wp2
          go_meet
          case rel => rw [hP, hA]; exact unhide HQ
      case rest =>
      have HQ2 := hide hcut
      clear hcut HQ
      have hs : s.size ≤ 65536 := by have := unhide Hlong; omega
      obtain ⟨pv, hpv⟩ : ∃ pv, pv = pvS s := ⟨_, rfl⟩
      rw [← hpv] at HQ2
      have Hpv := hide hpv
      clear hpv
      go_wp2
      go_loopg [7] (s.size + 1) (fun gg v7 wr => ∃ (op : Bool) (p : Nat) (q : Option Addr) (cap : Nat) (acc : List St), v7 = .bool op ∧ QS W n2 n3 n4 n6 B pv p q cap acc wr ∧ p ≤ s.size ∧ acc.length ≤ 256 ∧ (op = true → rst s p acc = rdS s ∧ s.size + 1 - p ≤ gg) ∧ (op = false → rdE s = (0, 0) ∧ (rdS s).2.2 = acc))
      case atStart => exact ⟨true, a0S s, none, 0, [], rfl, unhide HQ2, a0_le s, by simp, fun _ => ⟨rfl, by omega⟩, fun e => by cases e⟩
      case round =>
        clear HQ2
        obtain ⟨op, p, q, cap, acc, rfl, hq, hp, hac, ht, hf⟩ := hrel
        have HQ := hide hq
        clear hq
        cases op
        · obtain ⟨hE0, hR⟩ := hf rfl
          have HE0 := hide hE0
          have HR := hide hR
          clear ht hf hE0 hR hac hp
          have Hsl := hide ((unhide HQ).2.2.1.sl.2)
          have HW := hide (rwrong_any pv q acc cap wr (unhide Hsl))
          have HE := hide (show rE s = (wE pv acc, 0) by rw [rE_rest (unhide Hlong) (by rw [unhide HE0]), unhide HR, unhide Hpv])
          obtain ⟨er, her⟩ : ∃ er, er = wE pv acc := ⟨_, rfl⟩
          rw [← her] at HW HE
          clear her
          obtain ⟨la, hla⟩ : ∃ la, la = acc.length := ⟨_, rfl⟩
          have Hla := hide hla
          obtain ⟨-, ⟨-, -, -, ⟨⟨-, s0, s1⟩, -⟩⟩, -, -⟩ := unhide HQ
          unfold sV at HW
          rw [← hla] at HW s1
          clear hla Hsl
          go_upto_region 45 with (go_at_call 11; refine (unhide HW).mono ?_; rintro e' w5 ⟨rfl, hb5⟩)
          have HQ5 := hide ((unhide HQ).keep hb5)
          clear s0 s1 HQ HW hb5
          have HQ := HQ5
          by_cases he : er = 0
          · have z8 : (er != (0 : Int)) = false := by simpa using he
            have HEz := hide (show (rE s).1 = 0 by rw [unhide HE]; exact he)
            clear he
            go_upto_region 48 with fail
            obtain ⟨U, hU, r1, r2, u0, u1, u2, u3⟩ := (unhide HQ).res.fill (unhide Hb2) (unhide Hb3) (unhide Hnn) pv (.slice q la cap) 0 0
            obtain ⟨-, ⟨⟨⟨-, x0, x1⟩, fx⟩, ⟨⟨-, y0, y1⟩, fy⟩, -, ⟨⟨-, s0, s1⟩, -⟩⟩, -, -⟩ := unhide HQ
            rw [← unhide Hla] at s1
            have fx0 := fx 0
            have fx1 := fx 1
            have fy0 := fy 0
            have fy1 := fy 1
            have R1 := hide r1
            have R2 := hide r2
            have nn1 := unhide Hnn
            have nn2 := nn1.symm
            clear r1 r2 fx fy z8
            go_wp2
            refine bodyPost_ret (v := .tuple #[sV pv q la cap, .agg #[.int .i64 0, .int .i64 0]]) (by simp [results, Tryd.results8, sV, go_sem, u0, u1, u2, u3]) rfl ?_
            have h := unhide Hgood U q cap (unhide HEz) (unhide R1) (by
              rw [unhide HR]
              refine ps_but ((unhide HQ).2.2.1.sl.2) (unhide R2) (fun _ g o e hx => ?_)
              have h1 := SR.base (unhide HQ).2.2.1 _ e
              have h2 := unhide HO
              have h3 : B ≤ g := h1
              unfold QO at h2
              rcases hx with hx | hx <;> omega)
            rw [unhide HR, ← unhide Hpv, ← unhide Hla] at h
            exact h
          · have He := hide he
            have z8 : (er != (0 : Int)) = true := by simpa using he
            clear he
            obtain ⟨-, ⟨-, -, ⟨-, t0, tf⟩, -⟩, -, -⟩ := unhide HQ
            have f0 := tf 0
            clear tf
            go_upto_region 47 with fail
            have HQ9 := hide (show QS W n2 n3 n4 n6 B pv 0 q cap acc (w5.setCell ⟨n4, 0, none⟩ (.int .i64 0)) from (unhide HQ).put (unhide HO) 0)
            clear t0 f0 z8 HQ HQ5
            generalize w5.setCell ⟨n4, 0, none⟩ (.int .i64 0) = w9 at *
            have HQ := HQ9
            have HRS := hide ((unhide HQ).res)
            have HOZ := hide ((unhide HQ).2.1.2.2.1)
            have HE := hide (show rE s = (er, 0) from unhide HE)
            go_wp2_with (go_at_call 21; refine (bad_any _ _ 0 er (unhide HOZ)).mono ?_; rintro e' wz ⟨rfl, hbz⟩; have HSz := hide ((unhide HRS).keep hbz); obtain ⟨U, hU, r1, r2, u0, u1, u2, u3⟩ := (unhide HSz).fill (unhide Hb2) (unhide Hb3) (unhide Hnn) false (.slice none 0 0) er (0 : Int); obtain ⟨-, ⟨⟨-, x0, x1⟩, fx⟩, ⟨⟨-, y0, y1⟩, fy⟩⟩ := unhide HSz; have fx0 := fx 0; have fx1 := fx 1; have fy0 := fy 0; have fy1 := fy 1; have R1 := hide r1; have nn1 := unhide Hnn; have nn2 := nn1.symm; clear fx fy r1 r2)
            refine bodyPost_ret (v := .tuple #[sV false none 0 0, .agg #[.int .i64 er, .int .i64 (0 : Int)]]) (by simp [results, Tryd.results8, sV, go_sem, u0, u1, u2, u3]) rfl ?_
            exact unhide Hbad _ er 0 (unhide HE) (unhide He) (unhide R1)
        · obtain ⟨hrs, hgg⟩ := ht rfl
          have Hrs := hide hrs
          have Hgg := hide hgg
          have Hac := hide hac
          clear ht hf hrs hgg hac
          have pq0 : (0 : Int) ≤ (p : Int) := by omega
          have pq1 : (p : Int) ≤ (s.size : Int) := by omega
          obtain ⟨-, ⟨-, -, ⟨-, o0, o1⟩, ⟨⟨-, s0, s1⟩, -⟩⟩, -, -⟩ := unhide HQ
          have Hcol := hide (rcolour_any (s.extract p s.size) wr)
          cases e : signAt s p with
          | none =>
            rw [col_none e] at Hcol
            have HsE := hide (show spE s p = (2, p) by unfold spE; rw [e])
            clear e
            go_upto_region 14 with (go_at_call 22; refine (unhide Hcol).mono ?_; rintro e' w5 ⟨rfl, hb5⟩)
            clear o0 o1 s0 s1
            have HQ5 := hide ((unhide HQ).keep hb5)
            clear hb5 HQ
            have HQ := HQ5
            have HRS := hide ((unhide HQ).res)
            have HOZ := hide ((unhide HQ).2.1.2.2.1)
            have HE := hide (show rE s = (2, p) from rE_of (unhide Hlong) ((unhide Hrs).symm.trans ((rst_bad hp (by rw [unhide HsE]; simp)).trans (by rw [unhide HsE]))) (by decide))
            go_wp2_with (go_at_call 21; refine (bad_any _ _ p 2 (unhide HOZ)).mono ?_; rintro e' wz ⟨rfl, hbz⟩; have HSz := hide ((unhide HRS).keep hbz); obtain ⟨U, hU, r1, r2, u0, u1, u2, u3⟩ := (unhide HSz).fill (unhide Hb2) (unhide Hb3) (unhide Hnn) false (.slice none 0 0) 2 (p : Int); obtain ⟨-, ⟨⟨-, x0, x1⟩, fx⟩, ⟨⟨-, y0, y1⟩, fy⟩⟩ := unhide HSz; have fx0 := fx 0; have fx1 := fx 1; have fy0 := fy 0; have fy1 := fy 1; have R1 := hide r1; have nn1 := unhide Hnn; have nn2 := nn1.symm; clear fx fy r1 r2)
            refine bodyPost_ret (v := .tuple #[sV false none 0 0, .agg #[.int .i64 2, .int .i64 (p : Int)]]) (by simp [results, Tryd.results8, sV, go_sem, u0, u1, u2, u3]) rfl ?_
            exact unhide Hbad _ 2 p (unhide HE) (by decide) (unhide R1)
          | some x =>
            obtain ⟨c, n⟩ := x
            rw [col_some e] at Hcol
            obtain ⟨r1, r2, r3, r4⟩ := signAt_range s p c n e
            obtain ⟨p1, hp1⟩ : ∃ p1, p1 = p + n := ⟨_, rfl⟩
            rw [← hp1] at r2
            have e1 : (p : Int) + (n : Int) = (p1 : Int) := by omega
            have en : ((n : Int) == 0) = false := by simp; omega
            have HsE := hide (show spE s p = (cE (dgs s p1), p1) by unfold spE; rw [e, hp1])
            have HsV := hide (show spV s p = ((c, ((num 0 (dgs s p1) : Nat) : Int)), p1 + (dgs s p1).length) by unfold spV; rw [e, hp1])
            have hdl := dgs_len s p1 r2
            have Hat := hide (fun (i : Nat) (hi : i < (dgs s p1).length) => dgs_at hi)
            have Hst := hide (fun (h : p1 + (dgs s p1).length < s.size) => dgs_stop h)
            have Hall := hide (dgs_all s p1)
            have Hp1 := hide hp1
            clear e hp1 r1
            obtain ⟨d, hd⟩ : ∃ d, d = dgs s p1 := ⟨_, rfl⟩
            rw [← hd] at HsE HsV hdl Hat Hst Hall
            clear hd
            obtain ⟨ln, hln⟩ : ∃ ln, ln = d.length := ⟨_, rfl⟩
            rw [← hln] at hdl Hat Hst HsV
            have Hln := hide hln
            clear hln
            go_upto_region 15 with (go_at_call 22; refine (unhide Hcol).mono ?_; rintro e' w5 ⟨rfl, hb5⟩)
            clear o0 o1 s0 s1 Hcol en
            have HQ5 := hide ((unhide HQ).keep hb5)
            clear hb5 HQ
            obtain ⟨-, ⟨-, -, ⟨-, o0, o1⟩, -⟩, -, -⟩ := unhide HQ5
            have f0 := o1 0
            obtain ⟨w6, hw6⟩ : ∃ w6, w5.setCell ⟨n4, 0, none⟩ (.int .i64 (p1 : Int)) = w6 := ⟨_, rfl⟩
            have HQ6 := hide (show QS W n2 n3 n4 n6 B pv p1 q cap acc w6 by rw [← hw6]; exact (unhide HQ5).put (unhide HO) p1)
            obtain ⟨-, ⟨-, -, ⟨-, t0, -⟩, -⟩, -, -⟩ := unhide HQ6
            clear HQ5 o1
            go_upto_block 2 with fail
            clear o0 f0 hw6
            obtain ⟨pe, hpe⟩ : ∃ pe, pe = p1 + ln := ⟨_, rfl⟩
            go_cut [11] (fun v wd => v = .int .i64 (pe : Int) ∧ wd = w6)
            case first => as_aux_lemma =>
              go_wp2_with fail
              go_loopw [11] (fun v wr => ∃ j : Nat, j ≤ ln ∧ v = .int .i64 ((p1 + j : Nat) : Int) ∧ wr = w6) (fun v _ => pe - (intOf v).toNat)
              case atStart => exact ⟨0, by omega, rfl, rfl⟩
              case round =>
                obtain ⟨j, hj, rfl, rfl⟩ := hrel
                by_cases hjl : j < ln
                · obtain ⟨h4, -, hD⟩ := unhide Hat j hjl
                  have hD2 := isD_num hD
                  obtain ⟨pj, hpj⟩ : ∃ pj, pj = p1 + j := ⟨_, rfl⟩
                  have Hpj := hide hpj
                  rw [← hpj]
                  have hlt : pj < s.size := by rw [hpj]; exact h4
                  have b1 : (48 : Int) ≤ (((s[pj]'hlt).toNat : Nat) : Int) := by simp only [hpj]; omega
                  have b2 : (((s[pj]'hlt).toNat : Nat) : Int) ≤ 57 := by simp only [hpj]; omega
                  have q3 : (pj : Int) < (s.size : Int) := by omega
                  have q4 : (0 : Int) ≤ (pj : Int) := by omega
                  clear hpj h4 hD hD2
                  go_wp2
                  go_roundw
                  case rel => exact ⟨j + 1, by omega, congrArg (Value.int .i64) (by have := unhide Hpj; omega), trivial⟩
                  case measure => have := unhide Hpj; simp [intOf]; omega
                · obtain rfl : ln = j := by omega
                  rw [← hpe]
                  have Hpe := hide hpe
                  by_cases hz : pe < s.size
                  · have hz2 : p1 + ln < s.size := by rw [← hpe]; exact hz
                    have hD := not_isD (unhide Hst hz2)
                    have hD2 : (s[pe]'hz).toNat < 48 ∨ 57 < (s[pe]'hz).toNat := by simp only [hpe]; exact hD
                    have q3 : (pe : Int) < (s.size : Int) := by omega
                    have q4 : (0 : Int) ≤ (pe : Int) := by omega
                    clear hpe hD hz2
                    rcases hD2 with hD2 | hD2
                    · have b1 : ¬ (48 : Int) ≤ (((s[pe]'hz).toNat : Nat) : Int) := by omega
                      go_wp2
                      go_meet
                      case rel => exact ⟨rfl, rfl⟩
                    · have b1 : (48 : Int) ≤ (((s[pe]'hz).toNat : Nat) : Int) := by omega
                      have b2 : ¬ (((s[pe]'hz).toNat : Nat) : Int) ≤ 57 := by omega
                      go_wp2
                      go_meet
                      case rel => exact ⟨rfl, rfl⟩
                  · have q3 : ¬ (pe : Int) < (s.size : Int) := by omega
                    clear hpe
                    go_wp2
                    go_meet
                    case rel => exact ⟨rfl, rfl⟩
            case rest =>
            obtain ⟨rfl, h9⟩ := hcut
            rw [h9]
            clear h9
            have Hpe := hide hpe
            clear hpe
            have HQ := HQ6
            by_cases hl0 : ln = 0
            · have z1 : ((pe : Int) == (p1 : Int)) = true := by have := unhide Hpe; simp; omega
              have HcE := hide (cE_none ((unhide Hln).symm.trans hl0))
              clear hl0 HQ6
              go_upto_region 20 with fail
              clear t0 z1
              have HRS := hide ((unhide HQ).res)
              have HOZ := hide ((unhide HQ).2.1.2.2.1)
              have HE := hide (show rE s = (2, p1) from rE_of (unhide Hlong) ((unhide Hrs).symm.trans ((rst_bad hp (by rw [unhide HsE]; simp [unhide HcE])).trans (by rw [unhide HsE, unhide HcE]))) (by decide))
              go_wp2_with (go_at_call 21; refine (bad_any _ _ p1 2 (unhide HOZ)).mono ?_; rintro e' wz ⟨rfl, hbz⟩; have HSz := hide ((unhide HRS).keep hbz); obtain ⟨U, hU, r1, r2, u0, u1, u2, u3⟩ := (unhide HSz).fill (unhide Hb2) (unhide Hb3) (unhide Hnn) false (.slice none 0 0) 2 (p1 : Int); obtain ⟨-, ⟨⟨-, x0, x1⟩, fx⟩, ⟨⟨-, y0, y1⟩, fy⟩⟩ := unhide HSz; have fx0 := fx 0; have fx1 := fx 1; have fy0 := fy 0; have fy1 := fy 1; have R1 := hide r1; have nn1 := unhide Hnn; have nn2 := nn1.symm; clear fx fy r1 r2)
              refine bodyPost_ret (v := .tuple #[sV false none 0 0, .agg #[.int .i64 2, .int .i64 (p1 : Int)]]) (by simp [results, Tryd.results8, sV, go_sem, u0, u1, u2, u3]) rfl ?_
              exact unhide Hbad _ 2 p1 (unhide HE) (by decide) (unhide R1)
            · have z1 : ((pe : Int) == (p1 : Int)) = false := by have := unhide Hpe; simp; omega
              obtain ⟨h4, hd0, -⟩ := unhide Hat 0 (by omega)
              simp only [Nat.add_zero] at h4 hd0
              have q3 : (p1 : Int) < (s.size : Int) := by omega
              have q4 : (0 : Int) ≤ (p1 : Int) := by omega
              by_cases h48 : (s[p1]'h4).toNat = 48
              · have HcE := hide (cE_zero hd0 h48)
                have z2 : ((((s[p1]'h4).toNat : Nat) : Int) == 48) = true := by rw [h48]; rfl
                clear h48 hd0 HQ6
                go_upto_region 20 with fail
                clear t0 z1 z2
                have HRS := hide ((unhide HQ).res)
                have HOZ := hide ((unhide HQ).2.1.2.2.1)
                have HE := hide (show rE s = (2, p1) from rE_of (unhide Hlong) ((unhide Hrs).symm.trans ((rst_bad hp (by rw [unhide HsE]; simp [unhide HcE])).trans (by rw [unhide HsE, unhide HcE]))) (by decide))
                go_wp2_with (go_at_call 21; refine (bad_any _ _ p1 2 (unhide HOZ)).mono ?_; rintro e' wz ⟨rfl, hbz⟩; have HSz := hide ((unhide HRS).keep hbz); obtain ⟨U, hU, r1, r2, u0, u1, u2, u3⟩ := (unhide HSz).fill (unhide Hb2) (unhide Hb3) (unhide Hnn) false (.slice none 0 0) 2 (p1 : Int); obtain ⟨-, ⟨⟨-, x0, x1⟩, fx⟩, ⟨⟨-, y0, y1⟩, fy⟩⟩ := unhide HSz; have fx0 := fx 0; have fx1 := fx 1; have fy0 := fy 0; have fy1 := fy 1; have R1 := hide r1; have nn1 := unhide Hnn; have nn2 := nn1.symm; clear fx fy r1 r2)
                refine bodyPost_ret (v := .tuple #[sV false none 0 0, .agg #[.int .i64 2, .int .i64 (p1 : Int)]]) (by simp [results, Tryd.results8, sV, go_sem, u0, u1, u2, u3]) rfl ?_
                exact unhide Hbad _ 2 p1 (unhide HE) (by decide) (unhide R1)
              · have HcE := hide (cE_num hd0 h48)
                have z2 : ((((s[p1]'h4).toNat : Nat) : Int) == 48) = false := by simp; omega
                clear h48 hd0
                have Hsz := hide (show (s.extract p1 pe).size = ln by rw [unhide Hpe]; exact ex_size hdl)
                have Hget := hide (show ∀ j, j < ln → ∃ h : j < (s.extract p1 pe).size, ∃ h2 : j < d.length, (s.extract p1 pe)[j]'h = d[j]'h2 ∧ isD (d[j]'h2) = true from fun j hj => by
                  obtain ⟨k1, k2, k3⟩ := unhide Hat j hj
                  have h2 : j < d.length := by rw [← unhide Hln]; exact hj
                  have e2 : d[j]'h2 = s[p1 + j]'k1 := Option.some.inj ((List.getElem?_eq_getElem h2).symm.trans k2)
                  have hh : ∀ e, e = p1 + ln → ∃ h : j < (s.extract p1 e).size, (s.extract p1 e)[j]'h = s[p1 + j]'k1 := by
                    rintro e rfl
                    obtain ⟨k4, k5, k6⟩ := ex_get hdl hj
                    exact ⟨k4, k6⟩
                  obtain ⟨k4, k6⟩ := hh pe (unhide Hpe)
                  exact ⟨k4, h2, by rw [e2]; exact k6, by rw [e2]; exact k3⟩)
                have q5 : (p1 : Int) ≤ (pe : Int) := by have := unhide Hpe; omega
                have q6 : (pe : Int) ≤ (s.size : Int) := by have := unhide Hpe; omega
                clear Hat Hst hl0
                go_wp2
                generalize s.extract p1 pe = ds at *
                go_loopw [12, 14] (fun v _ wr => ∃ j : Nat, j ≤ ln ∧ v = .int .i64 ((cpf (d.take j) : Nat) : Int) ∧ wr.heap[w6.heap.size]? = some (.stringIter ds j) ∧ Below w6.heap.size w6 wr) (fun _ _ wr => ln - wr.iterPos w6.heap.size)
                case atStart => exact ⟨0, by omega, by rw [List.take_zero]; rfl, World.iter_heap w6 ds 0, bal (Below.refl _ _)⟩
                case round =>
                  obtain ⟨j, hj, rfl, hit, hbel⟩ := hrel
                  have hib : w6.heap.size < wr.heap.size := (Array.getElem?_eq_some_iff.1 hit).1
                  by_cases hjl : j < ln
                  · obtain ⟨k1, k2, k3, k4⟩ := unhide Hget j hjl
                    have hD := isD_num k4
                    have hnx : ∀ ty, (Instr.next (.pointer (some ⟨w6.heap.size, 0, none⟩)) true ty).run Tryd.prog wr = _ := fun ty => Lib.run_next_ascii_at wr w6.heap.size ds j ty hit k1 (by rw [k3]; omega)
                    rw [k3] at hnx
                    have hit2 := Lib.iterAt_heap wr w6.heap.size ds j (j + 1) hit
                    have hbel2 := Lib.below_iterAt hbel (k := w6.heap.size) (by omega) ds (j + 1)
                    have Hc := hide (cpf_next d j k2)
                    have hle := cpf_le d j (by omega) (unhide Hall)
                    obtain ⟨y, hy⟩ : ∃ y, y = d[j]'k2 := ⟨_, rfl⟩
                    rw [← hy] at hD hnx Hc
                    obtain ⟨b1, b2⟩ := hD
                    obtain ⟨x, hx⟩ : ∃ x : Nat, x = y.toNat := ⟨_, rfl⟩
                    rw [← hx] at b1 b2 hnx Hc
                    obtain ⟨m, hm⟩ : ∃ m : Nat, m = cpf (d.take j) := ⟨_, rfl⟩
                    rw [← hm] at hle Hc ⊢
                    have Hms := hide (show ∀ w2 : World, w2.heap[w6.heap.size]? = some (.stringIter ds (j + 1)) → ln - w2.iterPos w6.heap.size < ln - wr.iterPos w6.heap.size from fun w2 h => by simp only [World.iterPos, h, hit]; omega)
                    generalize wr.iterAt w6.heap.size ds (j + 1) = wq at *
                    clear hy hx hm hit hbel k3 k4
                    by_cases hm4 : m ≤ 4096
                    · have b3 : (m : Int) ≤ 4096 := by omega
                      go_wp2
                      go_roundw
                      case rel => exact ⟨j + 1, by omega, congrArg (Value.int .i64) (by rw [unhide Hc, if_pos hm4]; omega), hit2, hbel2⟩
                      case measure => exact unhide Hms _ hit2
                    · have b3 : ¬ (m : Int) ≤ 4096 := by omega
                      go_wp2
                      go_roundw
                      case rel => exact ⟨j + 1, by omega, congrArg (Value.int .i64) (by rw [unhide Hc, if_neg hm4]), hit2, hbel2⟩
                      case measure => exact unhide Hms _ hit2
                  · obtain rfl : ln = j := by omega
                    have hnx : ∀ ty, (Instr.next (.pointer (some ⟨w6.heap.size, 0, none⟩)) true ty).run Tryd.prog wr = _ := fun ty => Lib.run_next_end_at wr w6.heap.size ds ln ty hit (by rw [unhide Hsz]; omega)
                    have etk : d.take ln = d := by rw [unhide Hln, List.take_length]
                    rw [etk]
                    clear etk
                    obtain ⟨m, hm⟩ : ∃ m : Nat, m = cpf d := ⟨_, rfl⟩
                    rw [← hm] at HcE ⊢
                    have Hm := hide hm
                    clear hm
                    go_upto_region 27 with fail
                    have HQ7 := hide ((unhide HQ6).keep hbel)
                    clear hnx hit hbel hib HQ6 HQ t0
                    have HQ := HQ7
                    by_cases hm4 : 4096 < m
                    · have z3 : (4096 : Int) < (m : Int) := by omega
                      have HcF := hide (show cE d = 3 by rw [unhide HcE, if_pos hm4])
                      clear HQ7
                      go_upto_region 28 with fail
                      have HRS := hide ((unhide HQ).res)
                      have HOZ := hide ((unhide HQ).2.1.2.2.1)
                      have HE := hide (show rE s = (3, p1) from rE_of (unhide Hlong) ((unhide Hrs).symm.trans ((rst_bad hp (by rw [unhide HsE]; simp [unhide HcF])).trans (by rw [unhide HsE, unhide HcF]))) (by decide))
                      go_wp2_with (go_at_call 21; refine (bad_any _ _ p1 3 (unhide HOZ)).mono ?_; rintro e' wz ⟨rfl, hbz⟩; have HSz := hide ((unhide HRS).keep hbz); obtain ⟨U, hU, r1, r2, u0, u1, u2, u3⟩ := (unhide HSz).fill (unhide Hb2) (unhide Hb3) (unhide Hnn) false (.slice none 0 0) 3 (p1 : Int); obtain ⟨-, ⟨⟨-, x0, x1⟩, fx⟩, ⟨⟨-, y0, y1⟩, fy⟩⟩ := unhide HSz; have fx0 := fx 0; have fx1 := fx 1; have fy0 := fy 0; have fy1 := fy 1; have R1 := hide r1; have nn1 := unhide Hnn; have nn2 := nn1.symm; clear fx fy r1 r2)
                      refine bodyPost_ret (v := .tuple #[sV false none 0 0, .agg #[.int .i64 3, .int .i64 (p1 : Int)]]) (by simp [results, Tryd.results8, sV, go_sem, u0, u1, u2, u3]) rfl ?_
                      exact unhide Hbad _ 3 p1 (unhide HE) (by decide) (unhide R1)
                    · have z3 : ¬ (4096 : Int) < (m : Int) := by omega
                      have HcF := hide (show cE d = 0 by rw [unhide HcE, if_neg hm4])
                      have HE0 := hide (show (spE s p).1 = 0 by rw [unhide HsE]; exact unhide HcF)
                      have HV := hide (show spV s p = ((c, (m : Int)), pe) by rw [unhide HsV, (cpf_num d).1 (by rw [← unhide Hm]; omega), ← unhide Hm, unhide Hpe])
                      clear hm4 HcF HcE
                      obtain ⟨-, ⟨-, -, ⟨-, t0, tf⟩, ⟨⟨-, s0, s1⟩, -⟩⟩, hrow, hB⟩ := unhide HQ7
                      obtain ⟨la, hla⟩ : ∃ la, la = acc.length := ⟨_, rfl⟩
                      rw [← hla] at s1
                      have Hla := hide hla
                      by_cases h256 : acc.length = 256
                      · have z9 : (256 : Int) ≤ (la : Int) := by omega
                        have HE := hide (show rE s = (5, p) from rE_of (unhide Hlong) ((unhide Hrs).symm.trans (rst_many hp (unhide HE0) h256)) (by decide))
                        have f0 := tf 0
                        clear tf h256 hla hrow hB
                        go_upto_region 31 with fail
                        have HQ9 := hide ((unhide HQ7).put (unhide HO) p)
                        clear t0 f0 s0 s1 z9 z3 HQ HQ7
                        generalize wr.setCell ⟨n4, 0, none⟩ (.int .i64 (p : Int)) = w9 at *
                        have HQ := HQ9
                        have HRS := hide ((unhide HQ).res)
                        have HOZ := hide ((unhide HQ).2.1.2.2.1)
                        have HE := hide (show rE s = (5, p) from unhide HE)
                        go_wp2_with (go_at_call 21; refine (bad_any _ _ p 5 (unhide HOZ)).mono ?_; rintro e' wz ⟨rfl, hbz⟩; have HSz := hide ((unhide HRS).keep hbz); obtain ⟨U, hU, r1, r2, u0, u1, u2, u3⟩ := (unhide HSz).fill (unhide Hb2) (unhide Hb3) (unhide Hnn) false (.slice none 0 0) 5 (p : Int); obtain ⟨-, ⟨⟨-, x0, x1⟩, fx⟩, ⟨⟨-, y0, y1⟩, fy⟩⟩ := unhide HSz; have fx0 := fx 0; have fx1 := fx 1; have fy0 := fy 0; have fy1 := fy 1; have R1 := hide r1; have nn1 := unhide Hnn; have nn2 := nn1.symm; clear fx fy r1 r2)
                        refine bodyPost_ret (v := .tuple #[sV false none 0 0, .agg #[.int .i64 5, .int .i64 (p : Int)]]) (by simp [results, Tryd.results8, sV, go_sem, u0, u1, u2, u3]) rfl ?_
                        exact unhide Hbad _ 5 p (unhide HE) (by decide) (unhide R1)
                      · have n8 : la + 1 ≤ 256 := by have := unhide Hac; omega
                        have z9 : ¬ (256 : Int) ≤ (la : Int) := by omega
                        have Hnx := hide (show rdS s = if by1 s pe 32 = true then rst s (pe + 1) (acc ++ [(c, (m : Int))]) else (0, pe, acc ++ [(c, (m : Int))]) by
                          rw [← unhide Hrs, nx_step hp (unhide HE0) h256, nx_put, unhide HV])
                        have Hpe2 := hide (show p + 1 ≤ pe ∧ pe ≤ s.size from by
                          have h := sp_at (unhide HE0)
                          rw [unhide HV] at h
                          exact ⟨by omega, h.2⟩)
                        have Hln4 := hide (show (acc ++ [(c, (m : Int))]).length = la + 1 by rw [List.length_append, hla]; rfl)
                        have Lr := hide (own_lit (B := B) (e := 45) (z := 2) (k := 1) wr #[.int .i64 c, .int .i64 (m : Int)] hB (by unfold maxLen; omega) rfl)
                        have HQ8 := hide ((unhide HQ7).keep (bnew wr (.cells #[.int .i64 c, .int .i64 (m : Int)] 45)))
                        have Hrow := hide (show (wr.alloc (.cells #[.int .i64 c, .int .i64 (m : Int)] 45)).ownsRow B 45 2 (.slice q la cap) la (stV acc) by
                          have h := (unhide HQ8).2.2.1
                          unfold SR at h
                          rw [← unhide Hla] at h
                          exact h)
                        have HB8 := hide (show B ≤ (wr.alloc (.cells #[.int .i64 c, .int .i64 (m : Int)] 45)).heap.size from (unhide HQ8).2.2.2)
                        have Hone := hide (stV_one [(c, (m : Int))])
                        have Hap := hide (show stV (acc ++ [(c, (m : Int))]) = stV acc ++ [.int .i64 c, .int .i64 (m : Int)] from stV_app acc [(c, (m : Int))])
                        clear hla h256 hrow hB t0 tf
                        go_wp2_with (at_builtin; refine wl_app rfl rfl Tryd.underlying22 info45 rfl (by decide) (B := B) (C := B) (n := la) (m := 1) rfl rfl (unhide Hrow) (unhide Lr) (unhide Hone) (by unfold maxLen; omega) (by omega) (unhide HB8) ?_)
                        intro v5 w8 ho5 hg5 he5
                        rw [← unhide Hap] at ho5
                        obtain ⟨q5, cap5, rfl⟩ := own_form ho5
                        rw [unhide Hla] at hg5
                        have HN := (unhide HQ8).step (acc' := acc ++ [(c, (m : Int))]) (cap' := cap5) (q' := q5) (unhide HO) (by unfold SR; rw [unhide Hln4]; exact ho5) hg5
                        rw [unhide Hln4] at HN
                        obtain ⟨HN1, k1, f1⟩ := HN
                        rw [← unhide Hla] at k1
                        have HN2 := hide HN1
                        clear ho5 hg5 he5 HN1 s0 s1 Hrow Lr HQ HQ7 HQ8 z9 z3
                        go_upto_region 33 with fail
                        clear k1 f1
                        generalize w8.setCell ⟨n6, 1, none⟩ (.slice q5 (la + 1) cap5) = w9 at *
                        obtain ⟨-, ⟨-, -, ⟨-, t0, tf⟩, -⟩, -, -⟩ := unhide HN2
                        have f0 := tf 0
                        clear tf
                        go_upto_region 34 with fail
                        have HQ9 := hide ((unhide HN2).put (unhide HO) pe)
                        clear t0 f0 HN2
                        generalize w9.setCell ⟨n4, 0, none⟩ (.int .i64 (pe : Int)) = wx at *
                        have HQ := HQ9
                        have Hacc := hide (show (acc ++ [(c, (m : Int))]).length ≤ 256 by rw [unhide Hln4]; exact n8)
                        clear HQ9 n8
                        generalize acc ++ [(c, (m : Int))] = acc2 at *
                        obtain ⟨-, ⟨-, -, ⟨-, t0, tf⟩, ⟨⟨-, s0, -⟩, -⟩⟩, -, -⟩ := unhide HQ
                        have f0 := tf 0
                        clear tf
                        have q7 : (0 : Int) ≤ (pe : Int) := by omega
                        by_cases hz : pe < s.size
                        · have q8 : (pe : Int) < (s.size : Int) := by omega
                          have z1 : ((pe : Int) == (s.size : Int)) = false := by simp; omega
                          cases h47 : by1 s pe 47 with
                          | true =>
                            have y47 : ((((s[pe]'hz).toNat : Nat) : Int) == 47) = true := (by1_at 47 hz).symm.trans h47
                            have y32 : ((((s[pe]'hz).toNat : Nat) : Int) == 32) = false := by simp at y47 ⊢; omega
                            have h32 : by1 s pe 32 = false := (by1_at 32 hz).trans y32
                            have HR := hide (show rdS s = (0, pe, acc2) by rw [unhide Hnx, if_neg (by rw [h32]; decide)])
                            cases pv
                            · have HE := hide (rE_of2 (unhide Hlong) (rdE_e (unhide HR) (unhide Hpv).symm hz) (by decide))
                              clear h47 h32
                              go_upto_region 43 with fail
                              clear t0 f0 s0 z1 y47 y32
                              have HRS := hide ((unhide HQ).res)
                              have HOZ := hide ((unhide HQ).2.1.2.2.1)
                              have HE := hide (show rE s = (2, pe) from unhide HE)
                              go_wp2_with (go_at_call 21; refine (bad_any _ _ pe 2 (unhide HOZ)).mono ?_; rintro e' wz ⟨rfl, hbz⟩; have HSz := hide ((unhide HRS).keep hbz); obtain ⟨U, hU, r1, r2, u0, u1, u2, u3⟩ := (unhide HSz).fill (unhide Hb2) (unhide Hb3) (unhide Hnn) false (.slice none 0 0) 2 (pe : Int); obtain ⟨-, ⟨⟨-, x0, x1⟩, fx⟩, ⟨⟨-, y0, y1⟩, fy⟩⟩ := unhide HSz; have fx0 := fx 0; have fx1 := fx 1; have fy0 := fy 0; have fy1 := fy 1; have R1 := hide r1; have nn1 := unhide Hnn; have nn2 := nn1.symm; clear fx fy r1 r2)
                              refine bodyPost_ret (v := .tuple #[sV false none 0 0, .agg #[.int .i64 2, .int .i64 (pe : Int)]]) (by simp [results, Tryd.results8, sV, go_sem, u0, u1, u2, u3]) rfl ?_
                              exact unhide Hbad _ 2 pe (unhide HE) (by decide) (unhide R1)
                            · by_cases hz2 : pe + 1 < s.size
                              · have HE := hide (rE_of2 (unhide Hlong) (rdE_c (unhide HR) (unhide Hpv).symm h47 hz2) (by decide))
                                obtain ⟨pf, hpf⟩ : ∃ pf, pf = pe + 1 := ⟨_, rfl⟩
                                rw [← hpf] at hz2 HE
                                have ef : (pe : Int) + 1 = (pf : Int) := by omega
                                have q9 : (pf : Int) < (s.size : Int) := by omega
                                clear h47 h32 hpf hz2
                                go_upto_region 40 with fail
                                have HQ9 := hide ((unhide HQ).put (unhide HO) pf)
                                clear t0 f0 s0 z1 y47 y32 HQ q9
                                generalize wx.setCell ⟨n4, 0, none⟩ (.int .i64 (pf : Int)) = wy at *
                                have HQ := HQ9
                                have HRS := hide ((unhide HQ).res)
                                have HOZ := hide ((unhide HQ).2.1.2.2.1)
                                have HE := hide (show rE s = (2, pf) from unhide HE)
                                go_wp2_with (go_at_call 21; refine (bad_any _ _ pf 2 (unhide HOZ)).mono ?_; rintro e' wz ⟨rfl, hbz⟩; have HSz := hide ((unhide HRS).keep hbz); obtain ⟨U, hU, r1, r2, u0, u1, u2, u3⟩ := (unhide HSz).fill (unhide Hb2) (unhide Hb3) (unhide Hnn) false (.slice none 0 0) 2 (pf : Int); obtain ⟨-, ⟨⟨-, x0, x1⟩, fx⟩, ⟨⟨-, y0, y1⟩, fy⟩⟩ := unhide HSz; have fx0 := fx 0; have fx1 := fx 1; have fy0 := fy 0; have fy1 := fy 1; have R1 := hide r1; have nn1 := unhide Hnn; have nn2 := nn1.symm; clear fx fy r1 r2)
                                refine bodyPost_ret (v := .tuple #[sV false none 0 0, .agg #[.int .i64 2, .int .i64 (pf : Int)]]) (by simp [results, Tryd.results8, sV, go_sem, u0, u1, u2, u3]) rfl ?_
                                exact unhide Hbad _ 2 pf (unhide HE) (by decide) (unhide R1)
                              · have HEE := hide (rdE_d (unhide HR) (unhide Hpv).symm h47 hz2)
                                obtain ⟨pf, hpf⟩ : ∃ pf, pf = pe + 1 := ⟨_, rfl⟩
                                have Hpf := hide (show pf ≤ s.size by omega)
                                have ef : (pe : Int) + 1 = (pf : Int) := by omega
                                have q9 : ¬ (pf : Int) < (s.size : Int) := by omega
                                have HQ9 := hide ((unhide HQ).put (unhide HO) pf)
                                clear h47 h32 hpf hz2
                                go_wp2
                                go_roundg 0
                                case measure => have := unhide Hgg; omega
                                case rel => exact ⟨false, pf, q5, cap5, acc2, rfl, unhide HQ9, unhide Hpf, unhide Hacc, (fun e => by cases e), fun _ => ⟨unhide HEE, by rw [unhide HR]⟩⟩
                          | false =>
                            have y47 : ((((s[pe]'hz).toNat : Nat) : Int) == 47) = false := (by1_at 47 hz).symm.trans h47
                            cases h32 : by1 s pe 32 with
                            | true =>
                              have y32 : ((((s[pe]'hz).toNat : Nat) : Int) == 32) = true := (by1_at 32 hz).symm.trans h32
                              have HR := hide (show rst s (pe + 1) acc2 = rdS s by rw [unhide Hnx, if_pos h32])
                              obtain ⟨pf, hpf⟩ : ∃ pf, pf = pe + 1 := ⟨_, rfl⟩
                              rw [← hpf] at HR
                              have Hpf := hide hpf
                              have ef : (pe : Int) + 1 = (pf : Int) := by omega
                              have HQ9 := hide ((unhide HQ).put (unhide HO) pf)
                              clear h47 h32 hpf
                              go_wp2
                              go_roundg (s.size + 1 - pf)
                              case measure => have := unhide Hgg; have := unhide Hpf; have := unhide Hpe2; omega
                              case rel => exact ⟨true, pf, q5, cap5, acc2, rfl, unhide HQ9, by have := unhide Hpf; omega, unhide Hacc, (fun _ => ⟨unhide HR, by omega⟩), fun e => by cases e⟩
                            | false =>
                              have y32 : ((((s[pe]'hz).toNat : Nat) : Int) == 32) = false := (by1_at 32 hz).symm.trans h32
                              have HR := hide (show rdS s = (0, pe, acc2) by rw [unhide Hnx, if_neg (by rw [h32]; decide)])
                              have HE := hide (rE_of2 (unhide Hlong) (rdE_f (unhide HR) h47 hz) (by decide))
                              clear h47 h32
                              go_upto_region 43 with fail
                              clear t0 f0 s0 z1 y47 y32
                              have HRS := hide ((unhide HQ).res)
                              have HOZ := hide ((unhide HQ).2.1.2.2.1)
                              have HE := hide (show rE s = (2, pe) from unhide HE)
                              go_wp2_with (go_at_call 21; refine (bad_any _ _ pe 2 (unhide HOZ)).mono ?_; rintro e' wz ⟨rfl, hbz⟩; have HSz := hide ((unhide HRS).keep hbz); obtain ⟨U, hU, r1, r2, u0, u1, u2, u3⟩ := (unhide HSz).fill (unhide Hb2) (unhide Hb3) (unhide Hnn) false (.slice none 0 0) 2 (pe : Int); obtain ⟨-, ⟨⟨-, x0, x1⟩, fx⟩, ⟨⟨-, y0, y1⟩, fy⟩⟩ := unhide HSz; have fx0 := fx 0; have fx1 := fx 1; have fy0 := fy 0; have fy1 := fy 1; have R1 := hide r1; have nn1 := unhide Hnn; have nn2 := nn1.symm; clear fx fy r1 r2)
                              refine bodyPost_ret (v := .tuple #[sV false none 0 0, .agg #[.int .i64 2, .int .i64 (pe : Int)]]) (by simp [results, Tryd.results8, sV, go_sem, u0, u1, u2, u3]) rfl ?_
                              exact unhide Hbad _ 2 pe (unhide HE) (by decide) (unhide R1)
                        · have q8 : ¬ (pe : Int) < (s.size : Int) := by omega
                          have z1 : ((pe : Int) == (s.size : Int)) = true := by have := (unhide Hpe2).2; simp; omega
                          have HR := hide (show rdS s = (0, pe, acc2) by rw [unhide Hnx, if_neg (by rw [by1_no 32 hz]; decide)])
                          cases pv
                          · have HEE := hide (rdE_a (unhide HR) (unhide Hpv).symm hz)
                            clear hz
                            go_wp2
                            go_roundg 0
                            case measure => have := unhide Hgg; omega
                            case rel => exact ⟨false, pe, q5, cap5, acc2, rfl, unhide HQ, (unhide Hpe2).2, unhide Hacc, (fun e => by cases e), fun _ => ⟨unhide HEE, by rw [unhide HR]⟩⟩
                          · have HE := hide (rE_of2 (unhide Hlong) (rdE_b (unhide HR) (unhide Hpv).symm (by1_no 47 hz)) (by decide))
                            clear hz
                            go_upto_region 43 with fail
                            clear t0 f0 s0 z1
                            have HRS := hide ((unhide HQ).res)
                            have HOZ := hide ((unhide HQ).2.1.2.2.1)
                            have HE := hide (show rE s = (2, pe) from unhide HE)
                            go_wp2_with (go_at_call 21; refine (bad_any _ _ pe 2 (unhide HOZ)).mono ?_; rintro e' wz ⟨rfl, hbz⟩; have HSz := hide ((unhide HRS).keep hbz); obtain ⟨U, hU, r1, r2, u0, u1, u2, u3⟩ := (unhide HSz).fill (unhide Hb2) (unhide Hb3) (unhide Hnn) false (.slice none 0 0) 2 (pe : Int); obtain ⟨-, ⟨⟨-, x0, x1⟩, fx⟩, ⟨⟨-, y0, y1⟩, fy⟩⟩ := unhide HSz; have fx0 := fx 0; have fx1 := fx 1; have fy0 := fy 0; have fy1 := fy 1; have R1 := hide r1; have nn1 := unhide Hnn; have nn2 := nn1.symm; clear fx fy r1 r2)
                            refine bodyPost_ret (v := .tuple #[sV false none 0 0, .agg #[.int .i64 2, .int .i64 (pe : Int)]]) (by simp [results, Tryd.results8, sV, go_sem, u0, u1, u2, u3]) rfl ?_
                            exact unhide Hbad _ 2 pe (unhide HE) (by decide) (unhide R1)
    · have d0 : ¬ (0 : Int) < (s.size : Int) := by omega
      have e : signAt s 0 = none := by
        cases h : signAt s 0 with
        | none => rfl
        | some x =>
          obtain ⟨c, n⟩ := x
          obtain ⟨r1, r2, -⟩ := signAt_range s 0 c n h
          omega
      have hpv : pvS s = false := by
        cases h : pvS s with
        | false => rfl
        | true => exact absurd (by1_lt h) h0
      obtain ⟨p, hp0⟩ : ∃ p : Nat, p = 0 := ⟨_, rfl⟩
      have HE := hide (show rE s = (2, p) from rE_of (unhide Hlong) (show rdS s = (2, p, []) by
        rw [hp0]
        unfold rdS a0S
        rw [if_neg (by rw [hpv]; decide), rst_bad (Nat.zero_le _) (by unfold spE; rw [e]; simp)]
        unfold spE
        rw [e]) (by decide))
      have Hcol := hide (fun wr => rcolour_any (s.extract p s.size) wr)
      have e2 : signAt s p = none := by rw [hp0]; exact e
      rw [col_none e2] at Hcol
      have pq0 : (0 : Int) ≤ (p : Int) := by omega
      have pq1 : (p : Int) ≤ (s.size : Int) := by omega
      have hs : s.size ≤ 65536 := by have := unhide Hlong; omega
      have b6 := bnew w3 (.cells #[.bool false, .slice none 0 0] 24)
      have hS6 := BSx.new w3 false (.slice none 0 0) 24
      have HQ := hide (show QS W n2 n3 n4 w3.heap.size (w3.heap.size + 1) false p none 0 [] (w3.alloc (.cells #[.bool false, .slice none 0 0] 24)) from by
        rw [hp0]
        exact ⟨((unhide HS3).keep b6).1, ⟨((unhide HS3).keep b6).2.1, ((unhide HS3).keep b6).2.2, (unhide HO3).keep b6, hS6⟩, SR.nil _ _, by simp⟩)
      have HO := hide (show QO W n2 n3 n4 w3.heap.size (w3.heap.size + 1) from ⟨unhide Hb2, (unhide Hlt).1, (unhide Hlt).2.1, (unhide Hlt).2.2, by omega⟩)
      clear b6 hS6 HS3 HO3 Hlt hp0 e e2 hpv h0
      go_upto_if 31 with fail
      generalize w3.alloc (.cells #[.bool false, .slice none 0 0] 24) = w4 at *
      generalize hB : w3.heap.size + 1 = B at *
      generalize w3.heap.size = n6 at *
      clear hB
      go_wp2
      go_loopg [7] 1 (fun _ v7 wr => v7 = .bool true ∧ wr = w4)
      case atStart => exact ⟨rfl, rfl⟩
      case round =>
        obtain ⟨rfl, h9⟩ := hrel
        rw [h9]
        clear h9
        obtain ⟨-, ⟨-, -, ⟨-, o0, o1⟩, ⟨⟨-, s0, s1⟩, -⟩⟩, -, -⟩ := unhide HQ
        go_upto_region 14 with (go_at_call 22; refine (unhide Hcol w4).mono ?_; rintro e' w5 ⟨rfl, hb5⟩)
        clear o0 o1 s0 s1
        have HQ5 := hide ((unhide HQ).keep hb5)
        clear hb5 HQ
        have HQ := HQ5
        have HRS := hide ((unhide HQ).res)
        have HOZ := hide ((unhide HQ).2.1.2.2.1)
        have HE := hide (show rE s = (2, p) from unhide HE)
        go_wp2_with (go_at_call 21; refine (bad_any _ _ p 2 (unhide HOZ)).mono ?_; rintro e' wz ⟨rfl, hbz⟩; have HSz := hide ((unhide HRS).keep hbz); obtain ⟨U, hU, r1, r2, u0, u1, u2, u3⟩ := (unhide HSz).fill (unhide Hb2) (unhide Hb3) (unhide Hnn) false (.slice none 0 0) 2 (p : Int); obtain ⟨-, ⟨⟨-, x0, x1⟩, fx⟩, ⟨⟨-, y0, y1⟩, fy⟩⟩ := unhide HSz; have fx0 := fx 0; have fx1 := fx 1; have fy0 := fy 0; have fy1 := fy 1; have R1 := hide r1; have nn1 := unhide Hnn; have nn2 := nn1.symm; clear fx fy r1 r2)
        refine bodyPost_ret (v := .tuple #[sV false none 0 0, .agg #[.int .i64 2, .int .i64 (p : Int)]]) (by simp [results, Tryd.results8, sV, go_sem, u0, u1, u2, u3]) rfl ?_
        exact unhide Hbad _ 2 p (unhide HE) (by decide) (unhide R1)
end Go.Proofs.YtbnjjkanokmakaaDoor
