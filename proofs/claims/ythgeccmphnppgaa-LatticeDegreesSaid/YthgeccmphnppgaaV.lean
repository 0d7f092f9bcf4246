/- The specification's tree. -/
import Derived.Test.YthgeccmphnppgaaJ
set_option linter.unusedVariables false
set_option linter.unusedSimpArgs false
namespace Go.Proofs.Ythgeccmphnppgaa
open Go.RowKit

def rg (s t : Nat) : List Nat := (List.range t).map fun i => s + i
theorem rg_succ (s t : Nat) : rg s (t + 1) = rg s t ++ [s + t] := by
  unfold rg
  rw [List.range_succ, List.map_append]
  rfl
theorem rg_len (s t : Nat) : (rg s t).length = t := by simp [rg]
theorem rg_at {s t i : Nat} (h : i < t) : (ints (rg s t))[i]? = some (.int .i64 ((s + i : Nat) : Int)) := by simp [ints, rg, h]
/-- the edges, the level, and the level below it -/
structure TS (w0 wr : World) (v8 v9 v11 : Value) (l : List E3) (lv bl : List Nat) : Prop where
  es : wr.ownsRow w0.heap.size 50 3 v8 l.length (ecs l)
  lev : wr.ownsRow w0.heap.size 3 1 v9 lv.length (ints lv)
  bel : wr.ownsRow w0.heap.size 3 1 v11 bl.length (ints bl)
  a1 : ∀ k, v8.ownBlock = some k → v9.ownBlock ≠ some k ∧ v11.ownBlock ≠ some k
  a2 : ∀ k, v9.ownBlock = some k → v11.ownBlock ≠ some k
  kp : Kp [] w0 wr
theorem ints_snoc (l : List Nat) (x : Nat) : ints (l ++ [x]) = ints l ++ [.int .i64 (x : Int)] := by simp [ints]
theorem TS.edge {w0 wr w' : World} {v8 v9 v11 v' : Value} {l : List E3} {lv bl : List Nat} {t : E3} {o : Obj} (h : TS w0 wr v8 v9 v11 l lv bl)
    (r : w'.ownsRow w0.heap.size 50 3 v' (l.length + 1) (ecs l ++ ec t)) (g : (wr.alloc o).grownBy w' v8.ownBlock) (hb : v'.ownBlock = v8.ownBlock ∨ ∃ q, v'.ownBlock = some q ∧ (wr.alloc o).heap.size ≤ q) :
    TS w0 w' v' v9 v11 (l ++ [t]) lv bl := by
  have ka : Kp [] wr (wr.alloc o) := .of_below ((Below.refl _ _).alloc (Nat.le_refl _) _)
  have new : ∀ k, k < wr.heap.size → v8.ownBlock ≠ some k → v'.ownBlock ≠ some k := by
    intro k hk hne he
    rcases hb with hb | ⟨q, hq, hs⟩
    · exact hne (by rw [← hb]; exact he)
    · rw [he] at hq; injection hq with hq; simp at hs; omega
  refine ⟨?_, fresh_row (ka.row h.lev (by simp)) g (fun k hk e => (h.a1 k e).1 hk), fresh_row (ka.row h.bel (by simp)) g (fun k hk e => (h.a1 k e).2 hk), ?_, h.a2, (h.kp.trans ka (by simp)).grown g (fun k hk => (h.es.lt k hk).1)⟩
  · rw [List.length_append, ecs_append, show ecs [t] = ec t by simp [ecs]]; exact r
  · intro k hk
    constructor
    · intro e
      exact new k (h.lev.lt k e).2 (fun e2 => (h.a1 k e2).1 e) hk
    · intro e
      exact new k (h.bel.lt k e).2 (fun e2 => (h.a1 k e2).2 e) hk
theorem TS.num {w0 wr w' : World} {v8 v9 v11 v' : Value} {l : List E3} {lv bl : List Nat} {x : Nat} {o : Obj} (h : TS w0 wr v8 v9 v11 l lv bl)
    (r : w'.ownsRow w0.heap.size 3 1 v' (bl.length + 1) (ints bl ++ [.int .i64 (x : Int)])) (g : (wr.alloc o).grownBy w' v11.ownBlock) (hb : v'.ownBlock = v11.ownBlock ∨ ∃ q, v'.ownBlock = some q ∧ (wr.alloc o).heap.size ≤ q) :
    TS w0 w' v8 v9 v' l lv (bl ++ [x]) := by
  have ka : Kp [] wr (wr.alloc o) := .of_below ((Below.refl _ _).alloc (Nat.le_refl _) _)
  have new : ∀ k, k < wr.heap.size → v11.ownBlock ≠ some k → v'.ownBlock ≠ some k := by
    intro k hk hne he
    rcases hb with hb | ⟨q, hq, hs⟩
    · exact hne (by rw [← hb]; exact he)
    · rw [he] at hq; injection hq with hq; simp at hs; omega
  refine ⟨fresh_row (ka.row h.es (by simp)) g (fun k hk => (h.a1 k hk).2), fresh_row (ka.row h.lev (by simp)) g (fun k hk => h.a2 k hk), ?_, ?_, ?_, (h.kp.trans ka (by simp)).grown g (fun k hk => (h.bel.lt k hk).1)⟩
  · rw [List.length_append, ints_snoc]; exact r
  · intro k hk
    exact ⟨(h.a1 k hk).1, new k (h.es.lt k hk).2 (h.a1 k hk).2⟩
  · intro k hk
    exact new k (h.lev.lt k hk).2 (h.a2 k hk)
theorem TS.down {w0 wr : World} {v8 v9 v11 : Value} {l : List E3} {lv bl : List Nat} (h : TS w0 wr v8 v9 v11 l lv bl) : TS w0 wr v8 v11 (.slice none 0 0) l bl [] :=
  ⟨h.es, h.bel, World.ownsRow_nil _ _ _ _, fun k hk => ⟨(h.a1 k hk).2, by simp [Value.ownBlock]⟩, fun k hk => by simp [Value.ownBlock], h.kp⟩
theorem tE_next {a v q : Nat} (hv : 1 ≤ v) (hq : (v - 1) / a = q) : tE a (v + 1) = tE a v ++ [((q : Int), (v : Int), 0)] := by
  simp only [tE, if_pos hv, hq]
theorem par {a s i k n : Nat} (hk : k < a) (hn : n = s * a + 1) : (n + i * a + k - 1) / a = s + i := by
  have : n + i * a + k - 1 = k + (s + i) * a := by rw [Nat.add_mul]; omega
  rw [this, Nat.add_mul_div_right _ _ (by omega), Nat.div_eq_of_lt hk]
  omega
theorem info3 : (Try.prog.info? 3).map (fun i => (i.zero, i.size, i.bytes)) = some (some (.int .i64 0), 1, 8) := by kernel_rfl
end Go.Proofs.Ythgeccmphnppgaa
