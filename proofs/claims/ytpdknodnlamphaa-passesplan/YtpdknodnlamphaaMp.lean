/-
  Maps of whole numbers in memory, by whatever keys: what is looked up, and what is put in.
-/
import Derived.Test.YtpdknodnlamphaaBM
import Derived.Maps.Keyed
import Derived.WideKeyArr
import Derived.StringKeys
import Derived.RangeFuncRecord
namespace Go.Proofs.Ytpdknodnlamphaa
open Go.RowKit Go.ChangeMaps

theorem arr38 : WideMaps.ArrKey Try.prog 38 3 5 := ⟨Try.underlying38, by kernel_rfl, by kernel_rfl, by kernel_rfl⟩
theorem keyed38 : Maps.Keyed Try.prog 38 := Maps.Keyed.of_law arr38.law
theorem some_types : ∃ m, Try.prog.types.size = m + 1 := ⟨Try.prog.types.size - 1, by have : 0 < Try.prog.types.size := of_decide_eq_true (by kernel_rfl); omega⟩
/-- a way to stand, as a value -/
abbrev stV (l : List Int) : Value := .agg #[.int .i64 (gt l 0), .int .i64 (gt l 1), .int .i64 (gt l 2), .int .i64 (gt l 3), .int .i64 (gt l 4)]
theorem wf64 {a : Int} (h : -9223372036854775808 ≤ a ∧ a < 9223372036854775808) : (Lit.int .i64 a).wf = true := by
  simp only [Lit.wf, IntKind.min, IntKind.max, IntKind.signed, IntKind.bits, Bool.and_eq_true, decide_eq_true_eq, if_true]
  omega
theorem key_arr {a b c d e : Int} (ha : (Lit.int .i64 a).wf = true) (hb : (Lit.int .i64 b).wf = true) (hc : (Lit.int .i64 c).wf = true) (hd : (Lit.int .i64 d).wf = true) (he : (Lit.int .i64 e).wf = true) :
    ∃ l, keyOf Try.prog 38 (.agg #[.int .i64 a, .int .i64 b, .int .i64 c, .int .i64 d, .int .i64 e]) = some l := by
  have hkt := arr38.keyType some_types
  obtain ⟨m, hm⟩ := some_types
  unfold keyOf
  simp only [arr38.hu]
  rw [if_pos (by simp [hkt, Value.formed, arr38.hu, arr38.size]), hm]
  unfold Program.keyLits
  simp only [arr38.hu, Value.cells]
  rw [if_pos (by rw [arr38.size]; rfl)]
  rw [show List.range 5 = [0, 1, 2, 3, 4] from rfl]
  simp [List.mapM_cons, List.mapM_nil, arr38.one, Program.keyLits, Try.underlying3, ha, hb, hc, hd, he]
theorem key_st {l : List Int} (h : ∀ i, 0 ≤ gt l i ∧ gt l i ≤ 11) : ∃ k, keyOf Try.prog 38 (stV l) = some k :=
  key_arr (wf64 (by have := h 0; omega)) (wf64 (by have := h 1; omega)) (wf64 (by have := h 2; omega)) (wf64 (by have := h 3; omega)) (wf64 (by have := h 4; omega))
theorem stV_inj {l m : List Int} (hl : l.length = m.length) (h5 : l.length < 6) (h : stV l = stV m) : l = m := by
  simp at h
  refine list_ext hl fun i hi => ?_
  have hi : i < 5 := by omega
  rcases i with _ | _ | _ | _ | _ | i
  · exact h.1
  · exact h.2.1
  · exact h.2.2.1
  · exact h.2.2.2.1
  · exact h.2.2.2.2
  · omega

/-- a map in its block: keys, and whole numbers that aren't below 0 -/
def MpI (W : World) (k : TypeId) (b : Nat) (L : List (Value × Nat)) : Prop :=
  ∃ es clock, W.heap[b]? = some (.map es clock) ∧ es.toList.map (fun e => (e.key, e.val)) = L.map (fun p => (p.1, Value.int .i64 (p.2 : Int))) ∧ (L.map (·.1)).Nodup ∧ ∀ p ∈ L, ∃ l, keyOf Try.prog k p.1 = some l
theorem MpI.lt {W : World} {k : TypeId} {b : Nat} {L : List (Value × Nat)} (h : MpI W k b L) : b < W.heap.size := by
  obtain ⟨es, clock, hb, _⟩ := h
  exact (Array.getElem?_eq_some_iff.1 hb).1
theorem MpI.block {W V : World} {k : TypeId} {b : Nat} {L : List (Value × Nat)} (h : MpI W k b L) (e : V.heap[b]? = W.heap[b]?) : MpI V k b L := by
  obtain ⟨es, clock, hb, r⟩ := h
  exact ⟨es, clock, e.trans hb, r⟩
theorem MpI.keep {W V : World} {k : TypeId} {b : Nat} {L : List (Value × Nat)} (h : MpI W k b L) (hb : Below W.heap.size W V) : MpI V k b L := h.block (hb.block b h.lt)
theorem MpI.other {W V : World} {k : TypeId} {b : Nat} {L : List (Value × Nat)} {row : Option Nat} (h : MpI W k b L) (hg : W.grownBy V row) (hne : some b ≠ row) : MpI V k b L := h.block (hg.block b h.lt hne)
theorem MpI.new (W : World) (k : TypeId) : MpI (W.alloc (.map #[] 0)) k W.heap.size [] := ⟨#[], 0, heap_alloc_new W _, rfl, by simp, fun _ h => by cases h⟩
theorem MpI.found {W : World} {k t : TypeId} {b : Nat} {L : List (Value × Nat)} (K : Maps.Keyed Try.prog k) (ht : Try.prog.underlying t = some (.map k 3)) (h : MpI W k b L) {x : Value} {v : Nat} (hm : (x, v) ∈ L) (c : Bool) :
    (Instr.lookup t (.map (some b)) x c).run Try.prog W = .ok (if c then .tuple #[.int .i64 (v : Int), .bool true] else .int .i64 (v : Int)) W := by
  obtain ⟨es, clock, hb, he, hn, hk⟩ := h
  obtain ⟨l, hl⟩ := hk _ hm
  have keys : ∀ e ∈ es.toList, ∃ p ∈ L, e.key = p.1 ∧ e.val = .int .i64 (p.2 : Int) := fun e hme => by
    have : (e.key, e.val) ∈ es.toList.map (fun e => (e.key, e.val)) := List.mem_map.2 ⟨e, hme, rfl⟩
    rw [he] at this
    obtain ⟨p, hp, e1⟩ := List.mem_map.1 this
    exact ⟨p, hp, (Prod.mk.inj e1).1.symm, (Prod.mk.inj e1).2.symm⟩
  rcases K.find W hl es.toList (fun e hme => by obtain ⟨p, hp, e1, _⟩ := keys e hme; rw [e1]; exact hk p hp) with ⟨_, h2⟩ | ⟨j, e0, h1, h2, h3⟩
  · have : (x, Value.int .i64 (v : Int)) ∈ es.toList.map (fun e => (e.key, e.val)) := by rw [he]; exact List.mem_map.2 ⟨_, hm, rfl⟩
    obtain ⟨e, hme, e1⟩ := List.mem_map.1 this
    exact absurd (Prod.mk.inj e1).1 (h2 e hme)
  · obtain ⟨p, hp, e1, e2⟩ := keys e0 (List.mem_of_getElem? h2)
    have e3 : p = (x, v) := by
      have hx : p.1 = x := e1.symm.trans h3
      have key : ∀ (M : List (Value × Nat)), (M.map (·.1)).Nodup → p ∈ M → (x, v) ∈ M → p = (x, v) := by
        intro M
        induction M with
        | nil => intro _ h _; cases h
        | cons q M ih =>
          intro hd h1 h2
          rw [List.map_cons, List.nodup_cons] at hd
          rcases List.mem_cons.1 h1 with rfl | h1 <;> rcases List.mem_cons.1 h2 with e2 | h2
          · exact e2.symm
          · exact absurd (List.mem_map.2 ⟨_, h2, hx.symm⟩) hd.1
          · exact absurd (List.mem_map.2 ⟨_, h1, by rw [hx, ← e2]⟩) hd.1
          · exact ih hd.2 h1 h2
      exact key L hn hp hm
    rw [e3] at e2
    simp [Instr.lookup, run_underlying ht, MapKept.run_getObj_map hb, K.check W _ hl, h1, Result.andThen, e2]
theorem MpI.missed {W : World} {k t : TypeId} {b : Nat} {L : List (Value × Nat)} (K : Maps.Keyed Try.prog k) (ht : Try.prog.underlying t = some (.map k 3)) (h : MpI W k b L) {x : Value} {l : Lit} (hl : keyOf Try.prog k x = some l) (hm : ∀ p ∈ L, p.1 ≠ x) (c : Bool) :
    (Instr.lookup t (.map (some b)) x c).run Try.prog W = .ok (if c then .tuple #[.int .i64 0, .bool false] else .int .i64 0) W := by
  obtain ⟨es, clock, hb, he, hn, hk⟩ := h
  have keys : ∀ e ∈ es.toList, ∃ p ∈ L, e.key = p.1 := fun e hme => by
    have : (e.key, e.val) ∈ es.toList.map (fun e => (e.key, e.val)) := List.mem_map.2 ⟨e, hme, rfl⟩
    rw [he] at this
    obtain ⟨p, hp, e1⟩ := List.mem_map.1 this
    exact ⟨p, hp, (Prod.mk.inj e1).1.symm⟩
  rcases K.find W hl es.toList (fun e hme => by obtain ⟨p, hp, e1⟩ := keys e hme; rw [e1]; exact hk p hp) with ⟨h1, _⟩ | ⟨j, e0, h1, h2, h3⟩
  · simp [Instr.lookup, run_underlying ht, MapKept.run_getObj_map hb, K.check W _ hl, h1, Result.andThen]
  · obtain ⟨p, hp, e1⟩ := keys e0 (List.mem_of_getElem? h2)
    exact absurd (e1.symm.trans h3) (hm p hp)
theorem MpI.put {W : World} {k t : TypeId} {b : Nat} {L : List (Value × Nat)} (K : Maps.Keyed Try.prog k) (ht : Try.prog.underlying t = some (.map k 3)) (h : MpI W k b L) {x : Value} {l : Lit} (hl : keyOf Try.prog k x = some l) (hm : ∀ p ∈ L, p.1 ≠ x) (v : Nat) :
    ∃ V, (Instr.mapUpdate t (.map (some b)) x (.int .i64 (v : Int))).run Try.prog W = .ok () V ∧ MpI V k b (L ++ [(x, v)]) ∧ W.grownBy V (some b) ∧ V.heap.size = W.heap.size := by
  obtain ⟨es, clock, hb, he, hn, hk⟩ := h
  have hlt := (Array.getElem?_eq_some_iff.1 hb).1
  have keys : ∀ e ∈ es.toList, ∃ p ∈ L, e.key = p.1 := fun e hme => by
    have : (e.key, e.val) ∈ es.toList.map (fun e => (e.key, e.val)) := List.mem_map.2 ⟨e, hme, rfl⟩
    rw [he] at this
    obtain ⟨p, hp, e1⟩ := List.mem_map.1 this
    exact ⟨p, hp, (Prod.mk.inj e1).1.symm⟩
  rcases K.find W hl es.toList (fun e hme => by obtain ⟨p, hp, e1⟩ := keys e hme; rw [e1]; exact hk p hp) with ⟨h1, _⟩ | ⟨j, e0, h1, h2, h3⟩
  · refine ⟨W.putObj b (.map (es.push ⟨x, .int .i64 (v : Int), clock⟩) (clock + 1)), ?_, ⟨_, _, World.putObj_heap_same hlt, ?_, ?_, ?_⟩, ?_, by simp⟩
    · simp [Instr.mapUpdate, run_underlying ht, MapKept.run_getObj_map hb, K.check W false hl, h1, MapKept.run_setObj_map _ hb, Result.andThen, World.putObj]
    · simp [he]
    · rw [List.map_append, List.nodup_append]
      refine ⟨hn, by simp, ?_⟩
      intro a ha c hc e
      obtain ⟨p, hp, rfl⟩ := List.mem_map.1 ha
      obtain rfl : c = x := by simpa using hc
      exact hm p hp e
    · intro p hp
      rcases List.mem_append.1 hp with hp | hp
      · exact hk p hp
      · obtain rfl : p = (x, v) := by simpa using hp
        exact ⟨l, hl⟩
    · exact ⟨rfl, rfl, rfl, by simp, fun i _ hne => World.putObj_heap_other (fun e => hne (by rw [e]))⟩
  · obtain ⟨p, hp, e1⟩ := keys e0 (List.mem_of_getElem? h2)
    exact absurd (e1.symm.trans h3) (hm p hp)
end Go.Proofs.Ytpdknodnlamphaa
