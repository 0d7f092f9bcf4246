/- Copies of lists. -/
import Derived.Test.YthgeccmphnppgaaT
import Derived.Deep.AppendSrc
import Derived.Lib.JoinLaws
set_option linter.unusedVariables false
set_option linter.unusedSimpArgs false
namespace Go.Proofs.Ythgeccmphnppgaa
open Go.RowKit

theorem ecs_src {w : World} {ad : Addr} {n c : Nat} {l : List E3} (h : RdE w (.slice (some ad) n c) l) : ∀ (j : Nat) (u : Value), (ecs l)[j]? = some u → w.cell? (ad.add j) = some u := by
  intro j u hu
  have hj := (List.getElem?_eq_some_iff.1 hu).1
  rw [ecs_len] at hj
  obtain ⟨t, ht⟩ : ∃ t, l[j / 3]? = some t := ⟨_, List.getElem?_eq_getElem (by omega)⟩
  obtain ⟨b, off, he, c1, c2, c3⟩ := h.at ht
  injection he with he
  subst he
  obtain ⟨e1, e2, e3⟩ := ecs_at ht
  rw [Addr.add_lit]
  rcases (show j = j / 3 * 3 ∨ j = j / 3 * 3 + 1 ∨ j = j / 3 * 3 + 2 by omega) with hh | hh | hh
  · rw [hh] at hu ⊢; rw [e1] at hu; injection hu with hu; rw [← hu]; exact c1
  · rw [hh] at hu ⊢; rw [e2] at hu; injection hu with hu; rw [← hu, ← Nat.add_assoc]; exact c2
  · rw [hh] at hu ⊢; rw [e3] at hu; injection hu with hu; rw [← hu, ← Nat.add_assoc]; exact c3
theorem RdE.none_nil {w : World} {n c : Nat} {l : List E3} (h : RdE w (.slice none n c) l) : l = [] ∧ n = 0 := by
  obtain ⟨p, c', he, h⟩ := h
  injection he with h1 h2 h3
  rcases h with rfl | ⟨b, off, hp, _⟩
  · exact ⟨rfl, h2⟩
  · rw [hp] at h1; cases h1
theorem RdE.len {w : World} {p : Option Addr} {n c : Nat} {l : List E3} (h : RdE w (.slice p n c) l) : n = l.length := by
  obtain ⟨p', c', he, h⟩ := h
  injection he with h1 h2 h3
theorem mk22z (w : World) : (Instr.buildSlice 22 0 #[]).run Try.prog w = .ok (.slice (some ⟨w.heap.size, 0, none⟩) 0 0) (w.alloc (.cells #[] 50)) := by kernel_rfl
theorem mk39z (w : World) : (Instr.buildSlice 39 0 #[]).run Try.prog w = .ok (.slice (some ⟨w.heap.size, 0, none⟩) 0 0) (w.alloc (.cells #[] 2)) := by kernel_rfl
theorem wpList_m22z {w : World} {ops : Array Oper} {rest : List Oper} {o : Oper} {a : Act} {Q : Exit → Act → World → Prop} (hgd : o.guard = none) (ho : o.op = .buildSlice 22 0 #[])
    (h : wpList Try.prog ops Q rest (a.put o.dst (.slice (some ⟨w.heap.size, 0, none⟩) 0 0)) (w.alloc (.cells #[] 50))) : wpList Try.prog ops Q (o :: rest) a w := by
  refine wpList_plain hgd fun K hK => ?_
  have hr := mk22z w
  unfold Oper.wp
  simp only [execOp, ho]
  simp [hr, Result.andThen, Sem.run_bind]
  exact hK _ _ h
theorem wpList_m39z {w : World} {ops : Array Oper} {rest : List Oper} {o : Oper} {a : Act} {Q : Exit → Act → World → Prop} (hgd : o.guard = none) (ho : o.op = .buildSlice 39 0 #[])
    (h : wpList Try.prog ops Q rest (a.put o.dst (.slice (some ⟨w.heap.size, 0, none⟩) 0 0)) (w.alloc (.cells #[] 2))) : wpList Try.prog ops Q (o :: rest) a w := by
  refine wpList_plain hgd fun K hK => ?_
  have hr := mk39z w
  unfold Oper.wp
  simp only [execOp, ho]
  simp [hr, Result.andThen, Sem.run_bind]
  exact hK _ _ h
theorem info2 : (Try.prog.info? 2).map (fun i => (i.zero, i.size, i.bytes)) = some (some (.int .i64 0), 1, 8) := by kernel_rfl
theorem Below.fresh {W w' : World} {n : Nat} {o : Obj} (hn : W.heap.size = n) (g : (W.alloc o).grownBy w' (some n)) : Below W.heap.size W w' := by
  subst hn
  refine ⟨g.os, g.tape, g.output, ?_, fun k hk => ?_⟩
  · have := g.size; simp at this; omega
  · rw [g.block k (by simp; omega) (by simp; omega), Below.heap_alloc _ _ _ hk]
/-- a list of edges is copied -/
theorem wpList_copyE {ops : Array Oper} {rest : List Oper} {o : Oper} {a : Act} {Q : Exit → Act → World → Prop} (W : World) (m : Nat) (hm : W.heap.size = m) (hgd : o.guard = none) (s x : Operand)
    (ho : o.op = .call { callee := .builtin .append, args := #[s, x], argTypes := #[22, 22] }) (hs : a.eval s = .slice (some ⟨m, 0, none⟩) 0 0) (l : List E3) (p : Option Addr) (n c : Nat) (hx : a.eval x = .slice p n c)
    (rd : RdE W (.slice p n c) l) (hl : l.length ≤ 20000000)
    (h : ∀ p' c' w', RdE w' (.slice p' n c') l → Below W.heap.size W w' → wpList Try.prog ops Q rest (a.put o.dst (.slice p' n c')) w') :
    wpList Try.prog ops Q (o :: rest) a (W.alloc (.cells #[] 50)) := by
  subst hm
  obtain ⟨i0, h1, h2, h3, h4⟩ := info_parts info50
  cases p with
  | none =>
    obtain ⟨rfl, rfl⟩ := rd.none_nil
    refine wpList_append_room_src _ hgd s x 22 22 ho 50 i0 Try.underlying22 h1 W.heap.size 0 0 0 hs _ hx 0 [] (Src.ofNil _ Try.underlying22 c) (by omega) (by simp) (by simp) ?_
    exact h _ _ _ ⟨_, _, rfl, .inl rfl⟩ ((Below.refl _ _).alloc (Nat.le_refl _) _)
  | some ad =>
    have hn := rd.len
    refine wpList_append_new _ hgd s x 22 ho W.heap.size 50 i0 _ 3 24 Try.underlying22 h1 h2 h3 h4 rfl (by decide) _ 0 [] hs (World.ownsRow_made W #[] 0 (Nat.le_refl _) (Nat.zero_le _) rfl) ad n c (ecs l) hx (by rw [ecs_len, hn]) (ecs_src (rd.keep ((Below.refl _ _).alloc (Nat.le_refl _) _))) (ecs_one l) (by unfold maxLen; omega) (by omega) (by simp) ?_
    intro v' w' r g _
    rw [Nat.zero_add, List.nil_append, hn] at r
    obtain ⟨p', c', hv⟩ := row_slice r
    subst hv
    rw [← hn] at r ⊢
    exact h _ _ _ (RdE.of_row (by rw [hn] at r ⊢; exact r)) (Below.fresh rfl g)
theorem RdW.none_nil {w : World} {n c : Nat} {l : List Int} (h : RdW w (.slice none n c) l) : l = [] ∧ n = 0 := by
  obtain ⟨p, c', he, h⟩ := h
  injection he with h1 h2 h3
  rcases h with rfl | ⟨b, off, hp, _⟩
  · exact ⟨rfl, h2⟩
  · rw [hp] at h1; cases h1
theorem RdW.len {w : World} {p : Option Addr} {n c : Nat} {l : List Int} (h : RdW w (.slice p n c) l) : n = l.length := by
  obtain ⟨p', c', he, h⟩ := h
  injection he with h1 h2 h3
theorem RdW.of_row {w : World} {B n : Nat} {v : Value} {l : List Int} (h : w.ownsRow B 2 1 v n (l.map (Value.int .i64))) : RdW w v l := by
  have hn : l.length = n := by have := h.1; simpa using this
  obtain ⟨p, c, rfl⟩ := row_slice h
  subst hn
  refine ⟨p, c, rfl, ?_⟩
  by_cases hl : l = []
  · exact .inl hl
  · have h0 : 0 < l.length := List.length_pos_iff.2 hl
    obtain ⟨g, rfl, _, _, _⟩ := row_cell h h0
    refine .inr ⟨g, 0, rfl, (h.lt g (by simp [Value.ownBlock])).2, fun i x hi => ?_⟩
    have hlt := (List.getElem?_eq_some_iff.1 hi).1
    rw [Nat.zero_add, h.cellAt i (by simp; omega)]
    simp [hi]
/-- a list of numbers is copied -/
theorem wpList_copyW {ops : Array Oper} {rest : List Oper} {o : Oper} {a : Act} {Q : Exit → Act → World → Prop} (W : World) (m : Nat) (hm : W.heap.size = m) (hgd : o.guard = none) (s x : Operand)
    (ho : o.op = .call { callee := .builtin .append, args := #[s, x], argTypes := #[39, 39] }) (hs : a.eval s = .slice (some ⟨m, 0, none⟩) 0 0) (l : List Int) (p : Option Addr) (n c : Nat) (hx : a.eval x = .slice p n c)
    (rd : RdW W (.slice p n c) l) (hl : l.length ≤ 20000000)
    (h : ∀ p' c' w', RdW w' (.slice p' n c') l → Below W.heap.size W w' → wpList Try.prog ops Q rest (a.put o.dst (.slice p' n c')) w') :
    wpList Try.prog ops Q (o :: rest) a (W.alloc (.cells #[] 2)) := by
  subst hm
  obtain ⟨i0, h1, h2, h3, h4⟩ := info_parts info2
  cases p with
  | none =>
    obtain ⟨rfl, rfl⟩ := rd.none_nil
    refine wpList_append_room_src _ hgd s x 39 39 ho 2 i0 Try.underlying39 h1 W.heap.size 0 0 0 hs _ hx 0 [] (Src.ofNil _ Try.underlying39 c) (by omega) (by simp) (by simp) ?_
    exact h _ _ _ ⟨_, _, rfl, .inl rfl⟩ ((Below.refl _ _).alloc (Nat.le_refl _) _)
  | some ad =>
    have hn := rd.len
    have rd2 := rd.keep (show Below W.heap.size W (W.alloc (.cells #[] 2)) from (Below.refl _ _).alloc (Nat.le_refl _) _)
    refine wpList_append_new _ hgd s x 39 ho W.heap.size 2 i0 _ 1 8 Try.underlying39 h1 h2 h3 h4 rfl (by decide) _ 0 [] hs (World.ownsRow_made W #[] 0 (Nat.le_refl _) (Nat.zero_le _) rfl) ad n c (l.map (Value.int .i64)) hx (by simp [hn]) (fun j u hu => ?_) (fun u hu => ?_) (by unfold maxLen; omega) (by omega) (by simp) ?_
    · rw [List.getElem?_map] at hu
      obtain ⟨y, hy, rfl⟩ := Option.map_eq_some_iff.1 hu
      obtain ⟨b, off, he, e1⟩ := rd2.at hy
      injection he with he
      subst he
      rw [Addr.add_lit]
      exact e1
    · obtain ⟨y, _, rfl⟩ := List.mem_map.1 hu
      rfl
    · intro v' w' r g _
      rw [Nat.zero_add, List.nil_append] at r
      obtain ⟨p', c', hv⟩ := row_slice r
      subst hv
      exact h _ _ _ (RdW.of_row r) (Below.fresh rfl g)
def rowsE (n : Nat) (V : Nat → Nat → Int) : List E3 := (List.range n).map fun i => (V i 0, V i 1, V i 2)
def rowsW (n : Nat) (V : Nat → Nat → Int) : List Int := (List.range n).map fun i => V i 0
theorem rdE_arg {w : World} {s : Option Addr} {n c : Nat} {V : Nat → Nat → Int} (h : RowsI w s [.i64, .i64, .i64] n V) : RdE w (.slice s n c) (rowsE n V) := by
  refine ⟨s, c, by simp [rowsE], ?_⟩
  rcases h with rfl | ⟨b, off, rfl, hb, hc⟩
  · exact .inl rfl
  · refine .inr ⟨b, off, rfl, hb, fun i t hi => ?_⟩
    have hin : i < n := by have := (List.getElem?_eq_some_iff.1 hi).1; simpa [rowsE] using this
    simp [rowsE, hin] at hi
    subst hi
    have a := hc i hin 0 .i64 rfl
    have b := hc i hin 1 .i64 rfl
    have c := hc i hin 2 .i64 rfl
    simp at a b c
    exact ⟨a.1, b.1, c.1⟩
theorem rdW_arg {w : World} {s : Option Addr} {n c : Nat} {V : Nat → Nat → Int} (h : RowsI w s [.i64] n V) : RdW w (.slice s n c) (rowsW n V) := by
  refine ⟨s, c, by simp [rowsW], ?_⟩
  rcases h with rfl | ⟨b, off, rfl, hb, hc⟩
  · exact .inl rfl
  · refine .inr ⟨b, off, rfl, hb, fun i t hi => ?_⟩
    have hin : i < n := by have := (List.getElem?_eq_some_iff.1 hi).1; simpa [rowsW] using this
    simp [rowsW, hin] at hi
    subst hi
    have a := hc i hin 0 .i64 rfl
    simp at a
    exact a.1
end Go.Proofs.Ythgeccmphnppgaa
