/-
  A loop more, loops that are dropped, the rack, the count; pull.
-/
import Derived.Test.YtancniamgfppiaaMaF
namespace Go.Proofs.Ytancniamgfppiaa
open Go.RowKit

theorem g9_0 {a0 a1 a2 a3 a4 a5 a6 a7 a8 : Oper} : (#[a0, a1, a2, a3, a4, a5, a6, a7, a8] : Array Oper)[0]? = some a0 := rfl
theorem g9_1 {a0 a1 a2 a3 a4 a5 a6 a7 a8 : Oper} : (#[a0, a1, a2, a3, a4, a5, a6, a7, a8] : Array Oper)[1]? = some a1 := rfl
theorem g9_2 {a0 a1 a2 a3 a4 a5 a6 a7 a8 : Oper} : (#[a0, a1, a2, a3, a4, a5, a6, a7, a8] : Array Oper)[2]? = some a2 := rfl
theorem g9_3 {a0 a1 a2 a3 a4 a5 a6 a7 a8 : Oper} : (#[a0, a1, a2, a3, a4, a5, a6, a7, a8] : Array Oper)[3]? = some a3 := rfl
theorem g9_4 {a0 a1 a2 a3 a4 a5 a6 a7 a8 : Oper} : (#[a0, a1, a2, a3, a4, a5, a6, a7, a8] : Array Oper)[4]? = some a4 := rfl
theorem g9_5 {a0 a1 a2 a3 a4 a5 a6 a7 a8 : Oper} : (#[a0, a1, a2, a3, a4, a5, a6, a7, a8] : Array Oper)[5]? = some a5 := rfl
theorem g9_6 {a0 a1 a2 a3 a4 a5 a6 a7 a8 : Oper} : (#[a0, a1, a2, a3, a4, a5, a6, a7, a8] : Array Oper)[6]? = some a6 := rfl
theorem g9_7 {a0 a1 a2 a3 a4 a5 a6 a7 a8 : Oper} : (#[a0, a1, a2, a3, a4, a5, a6, a7, a8] : Array Oper)[7]? = some a7 := rfl
theorem g9_8 {a0 a1 a2 a3 a4 a5 a6 a7 a8 : Oper} : (#[a0, a1, a2, a3, a4, a5, a6, a7, a8] : Array Oper)[8]? = some a8 := rfl

theorem MB.more {B : Nat} {W V : World} {m N : Nat} {s : St} {g : Mg} (k : MB B W m N s g) {v tv : Value} {ts : List Nat} {car : Int} (hg : W.grownBy V g.lv.ownBlock) (hv : V.ownsRow B 43 2 v (g.ls.length + 1) (lpC g.ls ++ [.int .i64 car, tv])) (ht : NR W B tv ts) (ho : Ow g tv (3, 0)) :
    MB B (V.setCell ⟨m, 3, none⟩ v) m N { s with loops := s.loops ++ [(car, ts)] } { g with lv := v, ls := g.ls ++ [(car, tv, ts)] } := by
  have K1 : Kept (fun i => g.lv.ownBlock = some i) W V := grown_kept hg (fun r q => .inl q)
  have t41 : ∀ i, g.lv.ownBlock = some i → Tg W i 43 := fun i q => own_tg k.lps.1 q
  have b1 := k.box.kept K1 (fun q => absurd rfl (k.box.1.2.ne (t41 _ q) (by decide)))
  have K2 : Kept (fun i => i = m ∨ g.lv.ownBlock = some i) W (V.setCell ⟨m, 3, none⟩ v) := (K1.more (fun i q => .inl (.inr q))).set 3 v (.inl (.inl rfl))
  have nt : ∀ {t : TypeId}, t ≠ 73 → t ≠ 43 → ∀ i, (i = m ∨ g.lv.ownBlock = some i) → ¬ Tg W i t := by
    intro t h1 h2 i q u
    rcases q with q | q
    · exact tg_not (show Tg W i 73 from q ▸ k.box.1.2) (Ne.symm h1) u
    · exact tg_not (t41 i q) (Ne.symm h2) u
  refine ⟨b1.loops v _, fun b hb => ⟨(k.bed b hb).1.kept K2 (fun q => nt (by decide) (by decide) _ q (k.bed b hb).1.1.2), (k.bed b hb).2⟩, k.two, fun b n hb hn => ⟨(k.ndl b n hb hn).1.kept K2 (nt (by decide) (by decide)), (k.ndl b n hb hn).2⟩, ⟨?_, ?_⟩, fun e he => ?_, ⟨k.lse.1.kept K2 (nt (by decide) (by decide)), k.lse.2⟩, k.low⟩
  · show (V.setCell ⟨m, 3, none⟩ v).ownsRow B 43 2 v (g.ls ++ [(car, tv, ts)]).length (lpC (g.ls ++ [(car, tv, ts)]))
    rw [lpC_app, List.length_append]
    exact own_kept hv (kset V m 3 v) (fun i q u => tg_not (show Tg V i 73 from q ▸ b1.1.2) (by decide) u)
  · show (g.ls ++ [(car, tv, ts)]).map lpA = s.loops ++ [(car, ts)]
    rw [List.map_append, k.lps.2]
    rfl
  · rcases List.mem_append.1 he with q | q
    · exact ⟨(k.thr e q).1.kept K2 (nt (by decide) (by decide)), (k.thr e q).2⟩
    · rw [List.mem_singleton.1 q]
      exact ⟨ht.kept K2 (nt (by decide) (by decide)), ho⟩
theorem MB.moreK {B : Nat} {W V : World} {m N : Nat} {s : St} {g : Mg} (k : MB B W m N s g) (hg : W.grownBy V g.lv.ownBlock) (v : Value) : Kt B W (V.setCell ⟨m, 3, none⟩ v) := by
  have K1 : Kept (fun i => i = m ∨ g.lv.ownBlock = some i) W V := grown_kept hg (fun r q => .inl (.inr q))
  refine Kt.of (K1.set 3 v (.inl (.inl rfl))) (fun i q => ?_)
  rcases q with q | q
  · rw [q]; exact ⟨k.low, .inl k.box.1.2⟩
  · exact ⟨(k.lps.1.lt i q).1, .inr (.inr (.inr (own_tg k.lps.1 q)))⟩
theorem MB.drop {B : Nat} {W V : World} {m N : Nat} {s : St} {g : Mg} (k : MB B W m N s g) {v : Value} {ys : List Nat} (hg : W.grownBy V g.sv.ownBlock) (hv : NR V B v (s.loose ++ ys)) (hat : v.ownBlock = g.sv.ownBlock ∨ v.ownBlock = some W.heap.size) :
    MB B (V.setCell ⟨m, 4, none⟩ v) m N { s with loose := s.loose ++ ys } { g with sv := v, ow := fun k => if k < W.heap.size then g.ow k else (2, 0) } := by
  have K1 : Kept (fun i => g.sv.ownBlock = some i) W V := grown_kept hg (fun r q => .inl q)
  have t3 : ∀ i, g.sv.ownBlock = some i → Tg W i 3 := fun i q => own_tg k.lse.1 q
  have b1 := k.box.kept K1 (fun q => absurd rfl (k.box.1.2.ne (t3 _ q) (by decide)))
  have K2 : Kept (fun i => i = m ∨ g.sv.ownBlock = some i) W (V.setCell ⟨m, 4, none⟩ v) := (K1.more (fun i q => .inl (.inr q))).set 4 v (.inl (.inl rfl))
  have nt : ∀ {t : TypeId}, t ≠ 73 → t ≠ 3 → ∀ i, (i = m ∨ g.sv.ownBlock = some i) → ¬ Tg W i t := by
    intro t h1 h2 i q u
    rcases q with q | q
    · exact tg_not (show Tg W i 73 from q ▸ k.box.1.2) (Ne.symm h1) u
    · exact tg_not (t3 i q) (Ne.symm h2) u
  have hold : ∀ v' o xs, NR W B v' xs → Ow g v' o → o ≠ (2, 0) → NR (V.setCell ⟨m, 4, none⟩ v) B v' xs ∧ Ow { g with sv := v, ow := fun k => if k < W.heap.size then g.ow k else (2, 0) } v' o := by
    intro v' o xs h1 h2 h3
    refine ⟨h1.but K2 (fun i hi q => ?_), fun k' hk => ?_⟩
    · rcases q with q | q
      · exact tg_not (show Tg W i 73 from q ▸ k.box.1.2) (by decide) (own_tg h1 hi)
      · exact h3 ((h2 i hi).symm.trans (k.lse.2 i q))
    · show (if k' < W.heap.size then g.ow k' else (2, 0)) = o
      rw [if_pos (World.ownsRow.lt h1 k' hk).2]
      exact h2 k' hk
  refine ⟨b1.loose v _, fun b hb => ⟨(k.bed b hb).1.kept K2 (fun q => nt (by decide) (by decide) _ q (k.bed b hb).1.1.2), (k.bed b hb).2⟩, k.two, fun b n hb hn => hold _ _ _ (k.ndl b n hb hn).1 (k.ndl b n hb hn).2 (by intro q; cases q; omega), ⟨own_kept k.lps.1 K2 (nt (by decide) (by decide)), k.lps.2⟩, fun e he => hold _ _ _ (k.thr e he).1 (k.thr e he).2 (by intro q; cases q), ⟨hv.kept (kset V m 4 v) (fun i q u => tg_not (show Tg V i 73 from q ▸ b1.1.2) (by decide) u), fun k' hk => ?_⟩, k.low⟩
  show (if k' < W.heap.size then g.ow k' else (2, 0)) = (2, 0)
  by_cases c : k' < W.heap.size
  · rw [if_pos c]
    rcases hat with q | q
    · exact k.lse.2 k' (q ▸ hk)
    · rw [show ({ g with sv := v, ow := fun k => if k < W.heap.size then g.ow k else (2, 0) } : Mg).sv = v from rfl, q] at hk
      cases hk
      omega
  · rw [if_neg c]
theorem MB.dropK {B : Nat} {W V : World} {m N : Nat} {s : St} {g : Mg} (k : MB B W m N s g) (hg : W.grownBy V g.sv.ownBlock) (v : Value) : Kt B W (V.setCell ⟨m, 4, none⟩ v) := by
  have K1 : Kept (fun i => i = m ∨ g.sv.ownBlock = some i) W V := grown_kept hg (fun r q => .inl (.inr q))
  refine Kt.of (K1.set 4 v (.inl (.inl rfl))) (fun i q => ?_)
  rcases q with q | q
  · rw [q]; exact ⟨k.low, .inl k.box.1.2⟩
  · exact ⟨(World.ownsRow.lt k.lse.1 i q).1, .inr (.inr (.inl (own_tg k.lse.1 q)))⟩
theorem MB.boxK {B : Nat} {W : World} {m N : Nat} {s : St} {g : Mg} (k : MB B W m N s g) (o : Nat) (v : Value) : Kt B W (W.setCell ⟨m, o, none⟩ v) :=
  Kt.of (kset W m o v) (fun i q => by rw [q]; exact ⟨k.low, .inl k.box.1.2⟩)
/-- what lies beside the box stays -/
theorem MB.beside {B : Nat} {W : World} {m N : Nat} {s s' : St} {g : Mg} (k : MB B W m N s g) (o : Nat) (v : Value) (hb : MX (W.setCell ⟨m, o, none⟩ v) m N g s'.rack s'.done) (h1 : s'.on = s.on) (h2 : s'.loops = s.loops) (h3 : s'.loose = s.loose) : MB B (W.setCell ⟨m, o, none⟩ v) m N s' g := by
  have K := kset W m o v
  have nt : ∀ {t : TypeId}, t ≠ 73 → ∀ i, i = m → ¬ Tg W i t := fun h1 i q u => tg_not (show Tg W i 73 from q ▸ k.box.1.2) (Ne.symm h1) u
  refine ⟨hb, fun b hb => ⟨(k.bed b hb).1.kept K (fun q => nt (by decide) _ q (k.bed b hb).1.1.2), (k.bed b hb).2⟩, k.two, fun b n hb hn => ?_, ⟨own_kept k.lps.1 K (nt (by decide)), by rw [h2]; exact k.lps.2⟩, fun e he => ⟨(k.thr e he).1.kept K (nt (by decide)), (k.thr e he).2⟩, ?_, k.low⟩
  · rw [h1]; exact ⟨(k.ndl b n hb hn).1.kept K (nt (by decide)), (k.ndl b n hb hn).2⟩
  · rw [h3]; exact ⟨k.lse.1.kept K (nt (by decide)), k.lse.2⟩
theorem MB.rack {B : Nat} {W : World} {m N : Nat} {s : St} {g : Mg} (k : MB B W m N s g) (r : Int) : MB B (W.setCell ⟨m, 2, none⟩ (.int .i64 r)) m N { s with rack := r } g := k.beside 2 _ (k.box.rack r) rfl rfl rfl
theorem MB.count {B : Nat} {W : World} {m N : Nat} {s : St} {g : Mg} (k : MB B W m N s g) : MB B (W.setCell ⟨m, 5, none⟩ (.int .i64 ((s.done + 1 : Nat) : Int))) m N (cnt s) g := k.beside 5 _ (k.box.count (s.done + 1)) rfl rfl rfl

/-- a loop was made -/
def PullP (B : Nat) (W : World) (m N : Nat) (s : St) (b n : Nat) (car : Int) (ts : List Nat) (e : Ending) (w' : World) : Prop :=
  e = .returned (.tuple #[]) ∧ ∃ g', MB B w' m N { s with on := upd s.on b n (s.on b n ++ [s.loops.length]), loops := s.loops ++ [(car, ts)] } g' ∧ Kt B W w'
theorem loops_len {B : Nat} {W : World} {m N : Nat} {s : St} {g : Mg} (k : MB B W m N s g) : g.ls.length = s.loops.length := by rw [← k.lps.2]; simp

set_option maxRecDepth 100000 in
set_option maxHeartbeats 2000000 in
theorem pull_any {B : Nat} {W : World} {m N : Nat} {s : St} {g : Mg} (k : MB B W m N s g) (hBW : B ≤ W.heap.size) {b n : Nat} (hb : b < 2) (hn : n < N) {tv : Value} {ts : List Nat} (ht : NR W B tv ts) (ho : Ow g tv (3, 0)) (car : Int) (hl : (s.on b n).length ≤ 8) (hp : s.loops.length ≤ 4096) : Calls Try.prog 42 #[mp m, plV b n, .int .i64 car, tv] W (PullP B W m N s b n car ts) := by
  have B0 := hide (bnew W (.cells #[.int .i64 b, .int .i64 n] 75))
  have HP := hide (PB.new W b n)
  have HK := hide (k.keep (unhide B0))
  have HT0 := hide (ht.keep (unhide B0))
  have HB0 := hide (show B ≤ (W.alloc (.cells #[.int .i64 b, .int .i64 n] 75)).heap.size by simp; omega)
  have HO := hide ho
  obtain ⟨q, cap, hq⟩ := own_form k.lps.1
  have hln := loops_len k
  have HTo := hide ht.one
  obtain ⟨tq, tc, htv⟩ := ht.form
  obtain ⟨tl, htl⟩ : ∃ tl, tl = ts.length := ⟨_, rfl⟩
  rw [← htl] at htv
  subst htv
  clear htl
  clear ht ho hBW k
  go_enter Try.func42, Try.ntmps42
  go_upto_region 1 with fail
  generalize W.alloc (.cells #[.int .i64 b, .int .i64 n] 75) = w0 at *
  obtain ⟨bx, hbx⟩ : ∃ bx, bx = W.heap.size := ⟨_, rfl⟩
  rw [← hbx] at HP
  rw [← hbx]
  clear hbx
  have HC3 := hide (unhide HK).box.2.1.2.2.2.1
  have HQ := hide hq
  rw [hq] at HC3
  obtain ⟨nl, hnl⟩ : ∃ nl, nl = s.loops.length := ⟨_, rfl⟩
  rw [hln] at HC3 HQ
  rw [← hnl] at HC3 HQ
  have HLn := hide hln
  have HNl := hide hnl
  have hp' : nl ≤ 4096 := by rw [hnl]; exact hp
  clear hq hln hnl hp
  have HH := hide (show ∀ V, V = (w0.alloc (.cells #[.int .i64 (nl : Int)] 3)).drew → Calls Try.prog 44 #[mp m, plV b n, .slice (some ⟨w0.heap.size, 0, none⟩) 1 1] V (HangP B V m N s g b n [nl]) from fun V e => by
    subst e
    exact hang_any ((unhide HK).keep (btrans (bnew _ _) (bdrew _))) (by have := unhide HB0; simp; omega) hb hn ((NR.lit w0 0 nl (Nat.zero_le _)).keep (bdrew _)) (by simp; omega))
  have HT1 := hide ((unhide HT0).keep (btrans (bnew _ (.cells #[.int .i64 (nl : Int)] 3)) (bdrew _)))
  refine wp_region_noPanic ?_
  refine wp_region_held_drew (S := fun V => Kt B w0 V ∧ V.cell? ⟨m, 3, none⟩ = some (.slice q nl cap)) (by kernel_rfl) (⟨Kt.keep (bdrew _), unhide HC3⟩) ?_
  intro _
  refine wpAnyH_take (i := 0) (oi := _) (v := mp m) g9_0 (by kernel_rfl) (by kernel_rfl) (by kernel_rfl) (fun _ _ _ h => h) (Or.inl ⟨by rfl, ?_⟩) (by assumption) ?_
  · intro V hSw
    try dsimp only at hSw
    go_simp
  simp only [Act.put, List.setIfInBounds_toArray, List.set_cons_zero, List.set_cons_succ]
  refine wpAnyH_take (i := 1) (oi := _) (v := plV b n) g9_1 (by kernel_rfl) (by kernel_rfl) (by kernel_rfl) (fun _ _ _ h => h) (Or.inl ⟨by rfl, ?_⟩) (by assumption) ?_
  · intro V hSw
    try dsimp only at hSw
    have hp := hSw.1.pb (unhide HP)
    obtain ⟨-, p0, p1⟩ := hp
    go_simp
  simp only [Act.put, List.setIfInBounds_toArray, List.set_cons_zero, List.set_cons_succ]
  refine wpAnyH_take (i := 2) (oi := _) (v := mp m) g9_2 (by kernel_rfl) (by kernel_rfl) (by kernel_rfl) (fun _ _ _ h => h) (Or.inl ⟨by rfl, ?_⟩) (by assumption) ?_
  · intro V hSw
    try dsimp only at hSw
    go_simp
  simp only [Act.put, List.setIfInBounds_toArray, List.set_cons_zero, List.set_cons_succ]
  refine wpAnyH_take (i := 3) (oi := _) (v := mp m) g9_3 (by kernel_rfl) (by kernel_rfl) (by kernel_rfl) (fun _ _ _ h => h) (Or.inl ⟨by rfl, ?_⟩) (by assumption) ?_
  · intro V hSw
    try dsimp only at hSw
    go_simp
  simp only [Act.put, List.setIfInBounds_toArray, List.set_cons_zero, List.set_cons_succ]
  refine wpAnyH_take (i := 4) (oi := _) (v := .pointer (some ⟨m, 3, none⟩)) g9_4 (by kernel_rfl) (by kernel_rfl) (by kernel_rfl) (fun _ _ _ h => h) (Or.inl ⟨by rfl, ?_⟩) (by assumption) ?_
  · intro V hSw
    try dsimp only at hSw
    go_simp
  simp only [Act.put, List.setIfInBounds_toArray, List.set_cons_zero, List.set_cons_succ]
  refine wpAnyH_take (i := 5) (oi := _) (v := .slice q nl cap) g9_5 (by kernel_rfl) (by kernel_rfl) (by kernel_rfl) (fun _ _ _ h => h) (Or.inl ⟨by rfl, ?_⟩) (by assumption) ?_
  · intro V hSw
    try dsimp only at hSw
    have hm := hSw.2
    go_simp
  simp only [Act.put, List.setIfInBounds_toArray, List.set_cons_zero, List.set_cons_succ]
  refine wpAnyH_take (i := 6) (oi := _) (v := .int .i64 nl) g9_6 (by kernel_rfl) (by kernel_rfl) (by kernel_rfl) (fun _ _ _ h => h) (Or.inl ⟨by rfl, ?_⟩) (by assumption) ?_
  · intro V hSw
    try dsimp only at hSw
    go_simp
  simp only [Act.put, List.setIfInBounds_toArray, List.set_cons_zero, List.set_cons_succ]
  refine wpAnyH_ready (rs := [7]) (by kernel_rfl) (by simp) ?_
  refine AllReadyH.cons (o := _) g9_7 (fun K hK => ?_) AllReadyH.nil
  go_simp
  refine hK.out _ _ (⟨Kt.keep (btrans (bnew _ _) (bdrew _)), keepC (btrans (bnew _ _) (bdrew _)) (unhide HK).lt (unhide HC3)⟩) (fun _ => ?_)
  clear hK K
  refine wpAnyH_ready (rs := [8]) (by kernel_rfl) (by simp) ?_
  refine AllReadyH.cons (o := _) g9_8 (fun K hK => ?_) AllReadyH.nil
  go_simp
  refine (unhide HH _ rfl).mono ?_
  rintro e w3 ⟨rfl, g3, hk3, hold3, hkt3, hlv3⟩
  have K3 := hide hk3
  have O3 := hide (hold3 _ _ (unhide HT1) (unhide HO))
  have T3 := hide ((Kt.keep (btrans (bnew w0 (.cells #[.int .i64 (nl : Int)] 3)) (bdrew _))).trans hkt3)
  have C3 := hide (show w3.cell? ⟨m, 3, none⟩ = some (.slice q nl cap) by rw [← unhide HQ, ← hlv3]; exact hk3.box.2.1.2.2.2.1)
  have E3 := hide (show g3.lv = .slice q nl cap by rw [hlv3, unhide HQ])
  clear hk3 hold3 hkt3 hlv3
  refine hK.out _ _ (⟨unhide T3, unhide C3⟩) (fun _ => ?_)
  clear hK K
  refine wpAnyH_done (by kernel_rfl) ?_ _
  refine NoPanic.normal ?_
  have c3 := unhide C3
  have f3 := (unhide K3).box.2.2.2.1
  have hlt3 := (unhide K3).lt
  have hls : g3.ls.length = nl := by rw [loops_len (unhide K3)]; exact (unhide HNl).symm
  have Hls := hide hls
  have hO3 := (unhide K3).lps.1
  rw [hls, unhide E3] at hO3
  have HO3 := hide (own_keep hO3 (bnew w3 (.cells #[.int .i64 car, .slice tq tl tc] 43)))
  have HY3 := hide (own_lit (B := 0) (e := 43) (z := 2) (k := 1) w3 #[.int .i64 car, .slice tq tl tc] (Nat.zero_le _) (by unfold maxLen; omega) rfl)
  have HB3 := hide (show B ≤ (w3.alloc (.cells #[.int .i64 car, .slice tq tl tc] 43)).heap.size by have := unhide HB0; have := (unhide T3).size; simp; omega)
  have H1 := hide (show ∀ u ∈ (#[Value.int .i64 car, .slice tq tl tc] : Array Value).toList, u.oneCell' = true by
    intro u hu
    simp at hu
    rcases hu with rfl | rfl
    · rfl
    · exact unhide HTo)
  clear hls hO3
  go_wp2_with (at_builtin; refine wl_app rfl rfl Try.underlying25 info41 rfl (by decide) (B := B) (C := 0) (n := nl) (m := 1) rfl rfl (unhide HO3) (unhide HY3) (unhide H1) (by unfold maxLen; omega) (by omega) (unhide HB3) ?_)
  intro v' w5 hown' hgrow _
  have K4 := hide ((unhide K3).keep (bnew w3 (.cells #[.int .i64 car, .slice tq tl tc] 43)))
  have hg5 : (w3.alloc (.cells #[.int .i64 car, .slice tq tl tc] 43)).grownBy w5 g3.lv.ownBlock := by rw [unhide E3]; exact hgrow
  have hne5 : ¬ (Value.slice q nl cap).ownBlock = some m := fun e => absurd rfl ((unhide K3).box.1.2.ne (own_tg (by have := (unhide K3).lps.1; rw [unhide E3] at this; exact this) e) (by decide))
  have K5 : Kept (fun i => (Value.slice q nl cap).ownBlock = some i) (w3.alloc (.cells #[.int .i64 car, .slice tq tl tc] 43)) w5 := grown_kept hgrow (fun r e => .inl e)
  have c5 := K5.cell (unhide K4).lt hne5 (keepC (bnew _ _) hlt3 c3)
  have f5 := K5.froz (unhide K4).lt hne5 (keepF (bnew _ _) hlt3 f3)
  have M5 := hide (MB.more (unhide K4) (v := v') (tv := .slice tq tl tc) (ts := ts) (car := car) hg5 (by rw [unhide Hls]; have h := hown'; rw [← unhide Hls] at h; rw [← unhide Hls]; exact h) ((unhide O3).1.keep (bnew _ _)) (unhide O3).2)
  have M6 := hide ((unhide K4).moreK hg5 v')
  obtain ⟨q', cap', rfl⟩ := own_form hown'
  clear hown' hgrow hg5 K5 c3 f3
  go_wp2
  go_end0
  unfold PullP
  exact ⟨rfl, _, by rw [← unhide HNl]; exact unhide M5, (Kt.keep (unhide B0)).trans ((unhide T3).trans ((Kt.keep (bnew _ _)).trans (unhide M6)))⟩
end Go.Proofs.Ytancniamgfppiaa
