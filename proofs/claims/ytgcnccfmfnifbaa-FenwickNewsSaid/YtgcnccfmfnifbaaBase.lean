/- Facts on memory, rows and appending, free of any one program: kept here for every seat (replace Ytgcnccfmfnifbaa). -/
import Derived.Test.YtgcnccfmfnifbaaChecked
import Derived.Test.YtgcnccfmfnifbaaOp
import Derived.RowKit2
import Derived.Laws.Pointers
import Derived.Laws.StructEq
import Derived.Laws.Unary
import Derived.Laws.Bits64
import Derived.Laws.Slices
import Derived.Laws.Cover3
import Derived.Laws.AppendOwnNone
import Derived.Below
import Derived.BigQuiet
import Derived.OwnWalk
import Derived.LoopTactic
import Derived.ArgAppend
import Derived.Deep.CutRange
import Derived.Deep.RegionLaw
import Derived.Deep.RegionHeld3
set_option linter.unusedVariables false
set_option linter.unusedSimpArgs false
namespace Go.Proofs.Ytgcnccfmfnifbaa
open Go.RowKit

theorem hide {p : Prop} (h : p) : Hid p := h

/-- all blocks but those that are owned stay as they are -/
structure Kp (own : List Nat) (w w' : World) : Prop where
  os : w'.os = w.os
  tape : w'.tape = w.tape
  output : w'.output = w.output
  size : w.heap.size ≤ w'.heap.size
  block : ∀ k, k < w.heap.size → k ∉ own → w'.heap[k]? = w.heap[k]?

theorem Kp.refl (own : List Nat) (w : World) : Kp own w w := ⟨rfl, rfl, rfl, Nat.le_refl _, fun _ _ _ => rfl⟩

theorem Kp.drewN (own : List Nat) (w : World) (n : Nat) : Kp own w (w.drewN n) := ⟨rfl, rfl, rfl, Nat.le_refl _, fun _ _ _ => rfl⟩

theorem Kp.mono {o p : List Nat} {w w' : World} (h : Kp o w w') (s : ∀ k ∈ o, k < w.heap.size → k ∈ p) : Kp p w w' :=
  ⟨h.os, h.tape, h.output, h.size, fun k hk hp => h.block k hk (fun ho => hp (s k ho hk))⟩

theorem Kp.trans {o p : List Nat} {a b c : World} (h : Kp o a b) (k : Kp p b c) (s : ∀ x ∈ p, x ∈ o ∨ a.heap.size ≤ x) : Kp o a c :=
  ⟨k.os.trans h.os, k.tape.trans h.tape, k.output.trans h.output, Nat.le_trans h.size k.size, fun i hi ho =>
    (k.block i (Nat.lt_of_lt_of_le hi h.size) (fun hp => by rcases s i hp with h1 | h1; exact ho h1; omega)).trans (h.block i hi ho)⟩

theorem Kp.below {o : List Nat} {B : Nat} {w w' : World} (h : Kp o w w') (s : ∀ k ∈ o, B ≤ k) (hB : B ≤ w.heap.size) : Below B w w' :=
  ⟨h.os, h.tape, h.output, h.size, fun k hk => h.block k (by omega) (fun ho => by have := s k ho; omega)⟩

theorem Kp.of_below {o : List Nat} {w w' : World} (h : Below w.heap.size w w') : Kp o w w' :=
  ⟨h.os, h.tape, h.output, h.size, fun k hk _ => h.block k hk⟩

theorem Kp.set {o : List Nat} (w : World) (a : Addr) (v : Value) (h : a.block ∈ o) : Kp o w (w.setCell a v) :=
  ⟨rfl, rfl, rfl, by simp [World.setCell], fun k hk ho => Below.heap_setCell _ _ _ _ (fun e => ho (e ▸ h))⟩

theorem cell_of_blk {w : World} {b : Nat} {c : Array Value} {t : TypeId} {f : Nat × Nat} (h : w.heap[b]? = some (.cells c t f)) (i : Nat) : w.cell? ⟨b, i, none⟩ = c[i]? := by
  simp [World.cell?, h]

theorem free_of_blk {w : World} {b : Nat} {c : Array Value} {t : TypeId} (h : w.heap[b]? = some (.cells c t (0, 0))) (i : Nat) : w.frozen? ⟨b, i, none⟩ = false := by
  simp [World.frozen?, h]

theorem lt_of_blk {w : World} {b : Nat} {o : Obj} (h : w.heap[b]? = some o) : b < w.heap.size := (Array.getElem?_eq_some_iff.1 h).1

theorem Kp.blk {o : List Nat} {w w' : World} (h : Kp o w w') {b : Nat} {x : Obj} (hb : w.heap[b]? = some x) (n : b ∉ o) : w'.heap[b]? = some x := by
  rw [h.block b (lt_of_blk hb) n]; exact hb

theorem Kp.row {o : List Nat} {w w' : World} (h : Kp o w w') {B e size n : Nat} {v : Value} {xs : List Value} (hv : w.ownsRow B e size v n xs) (hn : ∀ k, v.ownBlock = some k → k ∉ o) : w'.ownsRow B e size v n xs := by
  refine ⟨hv.1, ?_⟩
  rcases hv.2 with h1 | ⟨g, cap, cur, rfl, hb, hgg, rest⟩
  · exact .inl h1
  · exact .inr ⟨g, cap, cur, rfl, hb, h.blk hgg (hn g rfl), rest⟩

theorem row_mono {w : World} {B B' e size n : Nat} {v : Value} {xs : List Value} (h : w.ownsRow B e size v n xs) (hb : B' ≤ B) : w.ownsRow B' e size v n xs := by
  refine ⟨h.1, ?_⟩
  rcases h.2 with h1 | ⟨g, cap, cur, rfl, hg, rest⟩
  · exact .inl h1
  · exact .inr ⟨g, cap, cur, rfl, by omega, rest⟩

theorem run_append_new {P : Program} (w : World) (base : Nat) (t ty e : TypeId) (i : TypeInfo) (z : Value) (size bytes : Nat) (ht : P.underlying t = some (.slice e)) (hi : P.info? e = some i) (hz : i.zero = some z)
    (hsize : i.size = size) (hby : i.bytes = bytes) (hzs : z.cells.size = size) (hsz : 0 < size)
    (v : Value) (n : Nat) (xs : List Value) (hown : w.ownsRow base e size v n xs)
    (a : Addr) (m c : Nat) (news : List Value) (hl : news.length = m * size) (hnews : ∀ j u, news[j]? = some u → w.cell? (a.add j) = some u) (h1 : ∀ u ∈ news, u.oneCell' = true)
    (h63 : n + m ≤ maxLen) (hbytes : (n + m) * bytes ≤ 140737488355328) (hbase : base ≤ w.heap.size) :
    ∃ v' w', (Builtin.append_ #[t, t] ty #[v, .slice (some a) m c]).run P w = .ok v' w' ∧ w'.ownsRow base e size v' (n + m) (xs ++ news) ∧ w.grownBy w' v.ownBlock ∧
      (v'.ownBlock = v.ownBlock ∨ ∃ k, v'.ownBlock = some k ∧ w.heap.size ≤ k) := by
  obtain ⟨v', w', hr, h2, h3, h4⟩ := run_append_own (P := P) w base t ty e i z size bytes ht hi hz hsize hby hzs hsz v n xs hown a m c news hl hnews h1 h63 hbytes hbase
  refine ⟨v', w', hr, h2, h3, ?_⟩
  rcases hown.2 with ⟨rfl, rfl⟩ | ⟨g, cap, cur, rfl, hbg, hg, hnc, hcm, hcs, htake⟩
  · have hx : xs = [] := List.eq_nil_of_length_eq_zero (by simpa using hown.1)
    subst hx
    obtain ⟨v2, w2, hr2, k2, _, _⟩ := run_append_own (P := P) w w.heap.size t ty e i z size bytes ht hi hz hsize hby hzs hsz (.slice none 0 0) 0 [] (World.ownsRow_nil w w.heap.size e size) a m c news hl hnews h1 h63 hbytes (Nat.le_refl _)
    have he := hr.symm.trans hr2
    injection he with he1 he2
    subst he1
    have lt := k2.lt
    cases hv : v'.ownBlock with
    | none => exact .inl rfl
    | some k => exact .inr ⟨k, rfl, (lt k hv).1⟩
  · by_cases hroom : n + m ≤ cap
    · obtain ⟨w2, hr2, _⟩ := run_append_fits (P := P) w base t ty e i size ht hi hsize g n cap xs hown a m c news hl hnews h1 hroom
      have he := hr.symm.trans hr2
      injection he with he1 he2
      subst he1
      exact .inl rfl
    · subst hsize
      subst hby
      have hr2 := run_append_grow (P := P) w t ty e i z ht hi hz ⟨g, 0, none⟩ n cap xs hown.1 (hown.cells (g := g) rfl) a m c news hl hnews (by omega) (by simp only [maxLen] at h63; omega) (growslice_fits (by omega) hbytes)
      have he := hr.symm.trans hr2
      injection he with he1 he2
      subst he1
      exact .inr ⟨_, rfl, Nat.le_refl _⟩

theorem wpList_append_new {P : Program} (w : World) {ops : Array Oper} {rest : List Oper} {o : Oper} {a : Act} {Q : Exit → Act → World → Prop} (hgd : o.guard = none) (s x : Operand) (t : TypeId)
    (ho : o.op = .call { callee := .builtin .append, args := #[s, x], argTypes := #[t, t] })
    (base : Nat) (e : TypeId) (i : TypeInfo) (z : Value) (size bytes : Nat) (ht : P.underlying t = some (.slice e)) (hi : P.info? e = some i) (hz : i.zero = some z)
    (hsize : i.size = size) (hby : i.bytes = bytes) (hzs : z.cells.size = size) (hsz : 0 < size)
    (v : Value) (n : Nat) (xs : List Value) (hs : a.eval s = v) (hown : w.ownsRow base e size v n xs)
    (ad : Addr) (m c : Nat) (news : List Value) (hx : a.eval x = .slice (some ad) m c) (hl : news.length = m * size) (hnews : ∀ j u, news[j]? = some u → w.cell? (ad.add j) = some u) (h1 : ∀ u ∈ news, u.oneCell' = true)
    (h63 : n + m ≤ maxLen) (hbytes : (n + m) * bytes ≤ 140737488355328) (hbase : base ≤ w.heap.size)
    (h : ∀ v' w', w'.ownsRow base e size v' (n + m) (xs ++ news) → w.grownBy w' v.ownBlock → (v'.ownBlock = v.ownBlock ∨ ∃ k, v'.ownBlock = some k ∧ w.heap.size ≤ k) → wpList P ops Q rest (a.put o.dst v') w') : wpList P ops Q (o :: rest) a w := by
  refine wpList_plain hgd fun K hK => ?_
  obtain ⟨v', w', hr, h2, h3, h4⟩ := run_append_new (P := P) w base t o.type e i z size bytes ht hi hz hsize hby hzs hsz v n xs hown ad m c news hl hnews h1 h63 hbytes hbase
  unfold Oper.wp
  simp [execOp, ho, resolve, invoke, builtin, hs, hx, hr, Result.andThen]
  exact hK _ _ (h v' w' h2 h3 h4)

theorem fresh_row {w w' : World} {B e size n : Nat} {v : Value} {xs : List Value} {o : Option Nat} (h : w.ownsRow B e size v n xs) (g : w.grownBy w' o) (hn : ∀ k, v.ownBlock = some k → o ≠ some k) : w'.ownsRow B e size v n xs :=
  h.kept g (by
    cases hv : v.ownBlock with
    | none => exact .inl rfl
    | some k => exact .inr (fun e => hn k hv e.symm))

theorem set_at {α : Type} {l : List α} {k : Nat} {x : α} (v : α) (h : l[k]? = some x) : (l.set k v)[k]? = some v := by
  have := (List.getElem?_eq_some_iff.1 h).1
  rw [List.getElem?_set]; simp [this]

theorem set_far {α : Type} {l : List α} {k j : Nat} (v : α) (h : k ≠ j) : (l.set k v)[j]? = l[j]? := by
  rw [List.getElem?_set]; simp [h]

theorem u64_bounds (x : Int) : 0 ≤ IntKind.u64.wrap x ∧ IntKind.u64.wrap x < 18446744073709551616 := by rw [IntKind.wrap_u64]; omega

theorem cell_far {w : World} {a b : Addr} {v : Value} (h : a ≠ b) : (w.setCell b v).cell? a = w.cell? a := World.cell?_setCell_other _ _ _ _ (Ne.symm h)

theorem one_src (w : World) (x : Value) (t : TypeId) : ∀ (j : Nat) (u : Value), [x][j]? = some u → (w.alloc (.cells #[x] t)).cell? ((⟨w.heap.size, 0, none⟩ : Addr).add j) = some u := by
  intro j u hj
  rw [Addr.add_lit, Nat.zero_add, World.cell?_alloc_new]
  simpa using hj

theorem Kp.grown {o : List Nat} {w wr w' : World} {row : Option Nat} (h : Kp o w wr) (g : wr.grownBy w' row) (hr : ∀ k, row = some k → w.heap.size ≤ k) : Kp o w w' :=
  ⟨g.os.trans h.os, g.tape.trans h.tape, g.output.trans h.output, Nat.le_trans h.size g.size, fun k hk ho => (g.block k (by have := h.size; omega) (fun e => by have := hr k e.symm; omega)).trans (h.block k hk ho)⟩

theorem nodup_le : ∀ (n : Nat) (l : List Nat), l.Nodup → (∀ x ∈ l, x < n) → l.length ≤ n := by
  intro n
  induction n with
  | zero =>
    intro l _ h
    rcases l with _ | ⟨x, r⟩
    · simp
    · have := h x (by simp); omega
  | succ n ih =>
    intro l hd h
    by_cases hm : n ∈ l
    · have h1 := ih (l.erase n) (hd.erase n) fun x hx => by
        have := h x (List.mem_of_mem_erase hx)
        have : x ≠ n := fun e => by subst e; exact (hd.not_mem_erase) hx
        omega
      rw [List.length_erase_of_mem hm] at h1
      omega
    · have h1 := ih l hd fun x hx => by
        have := h x hx
        have : x ≠ n := fun e => hm (e ▸ hx)
        omega
      omega

def ints (l : List Nat) : List Value := l.map fun i : Nat => Value.int .i64 (i : Int)

theorem row_slice {w : World} {B e size n : Nat} {v : Value} {xs : List Value} (h : w.ownsRow B e size v n xs) : ∃ p c, v = .slice p n c := by
  rcases h.2 with ⟨rfl, rfl⟩ | ⟨g, c, cur, rfl, _⟩
  · exact ⟨_, _, rfl⟩
  · exact ⟨_, _, rfl⟩

theorem row_cell {w : World} {B e n c : Nat} {p : Option Addr} {xs : List Value} (h : w.ownsRow B e 1 (.slice p n c) n xs) {k : Nat} (hk : k < n) :
    ∃ g, p = some ⟨g, 0, none⟩ ∧ w.cell? ⟨g, k, none⟩ = xs[k]? ∧ w.frozen? ⟨g, k, none⟩ = false ∧ B ≤ g := by
  obtain ⟨hl, h1 | ⟨g, cap, cur, hv, hg, hh, hn, hm, hs, ht⟩⟩ := id h
  · obtain ⟨_, rfl⟩ := h1; omega
  · injection hv with h1 h2 h3
    subst h1; subst h3
    exact ⟨g, rfl, h.cellAt k (by omega), h.frozenAt k, hg⟩

theorem row_own {w : World} {B e size n : Nat} {v : Value} {xs : List Value} (h : w.ownsRow B e size v n xs) : ∀ x ∈ v.ownBlock.toList, x < w.heap.size := by
  intro x hx
  simp at hx
  exact (h.lt x hx).2

theorem rowsI_one {w : World} {s : Option Addr} {k : IntKind} {n : Nat} {V : Nat → Nat → Int} (h : RowsI w s [k] n V) {i : Nat} (hi : i < n) :
    ∃ b off, s = some ⟨b, off, none⟩ ∧ b < w.heap.size ∧ w.cell? ⟨b, off + i, none⟩ = some (.int k (V i 0)) ∧ (Lit.int k (V i 0)).wf = true := by
  rcases h with h | ⟨b, off, rfl, hb, hc⟩
  · omega
  · have := hc i hi 0 k rfl
    simp at this
    exact ⟨b, off, rfl, hb, this⟩

theorem at_block {P : Program} {i} {c : Code} {Q : Exit → Act → World → Prop} {a : Act} {w : World} (h : Code.wp P (.block i (.loop c)) Q a w) : Code.wp P (.block i (.loop c)) Q a w := h

theorem row_take {w : World} {B e n c m : Nat} {p : Option Addr} {xs : List Value} (h : w.ownsRow B e 1 (.slice p n c) n xs) (hm : m ≤ n) (hp : p ≠ none) : w.ownsRow B e 1 (.slice p m c) m (xs.take m) := by
  obtain ⟨hl, h1 | ⟨g, cap, cur, hv, hg, hh, hn, hmx, hs, ht⟩⟩ := h
  · obtain ⟨h1, _⟩ := h1
    injection h1 with h1 _ _
    exact absurd h1 hp
  · injection hv with h1 h2 h3
    subst h1; subst h3
    refine ⟨by simp at hl ⊢; omega, .inr ⟨g, c, cur, rfl, hg, hh, by omega, hmx, hs, ?_⟩⟩
    rw [← ht, List.take_take, Nat.mul_one, Nat.mul_one, Nat.min_eq_left hm]

theorem row_put {w : World} {B e n c g : Nat} {xs : List Value} (h : w.ownsRow B e 1 (.slice (some ⟨g, 0, none⟩) n c) n xs) (j : Nat) (u : Value) : (w.setCell ⟨g, j, none⟩ u).ownsRow B e 1 (.slice (some ⟨g, 0, none⟩) n c) n (xs.set j u) := (h.stored j u).1

theorem row_side {w : World} {B e size n : Nat} {v : Value} {xs : List Value} (h : w.ownsRow B e size v n xs) {b : Nat} (d : ∀ k, v.ownBlock = some k → k ≠ b) (j : Nat) (u : Value) : (w.setCell ⟨b, j, none⟩ u).ownsRow B e size v n xs :=
  (Kp.set w ⟨b, j, none⟩ u (o := [b]) (by simp)).row h fun k hk => by simpa using d k hk

structure Apart (r : Nat) (a b c : Option Nat) : Prop where
  ra : ∀ k, a = some k → k ≠ r
  rb : ∀ k, b = some k → k ≠ r
  rc : ∀ k, c = some k → k ≠ r
  ab : ∀ k, a = some k → b ≠ some k
  ac : ∀ k, a = some k → c ≠ some k
  bc : ∀ k, b = some k → c ≠ some k

theorem nd_parts {r : Nat} {a b c : Option Nat} : (r :: (a.toList ++ (b.toList ++ c.toList))).Nodup ↔ Apart r a b c := by
  constructor
  · intro h
    cases a <;> cases b <;> cases c <;> simp at h <;> refine ⟨?_, ?_, ?_, ?_, ?_, ?_⟩ <;> intro k hk <;> simp at hk ⊢ <;> omega
  · intro h
    obtain ⟨h1, h2, h3, h4, h5, h6⟩ := h
    cases a <;> cases b <;> cases c <;> (try simp at h1 h2 h3 h4 h5 h6 ⊢) <;> (try omega)

theorem blk_grown {w w' : World} {b : Nat} {x y : Obj} {o : Option Nat} (h : w.heap[b]? = some x) (g : (w.alloc y).grownBy w' o) (n : some b ≠ o) : w'.heap[b]? = some x := by
  have hb := lt_of_blk h
  rw [g.block b (by simp; omega) n, Below.heap_alloc _ _ _ hb]
  exact h

theorem one_srcN (w : World) (n : Nat) (hn : w.heap.size = n) (x : Value) (t : TypeId) : ∀ (j : Nat) (u : Value), [x][j]? = some u → (w.alloc (.cells #[x] t)).cell? ((⟨n, 0, none⟩ : Addr).add j) = some u := by
  subst hn; exact one_src w x t

/-- a row is appended to nothing -/
theorem wpList_clone {P : Program} (w : World) {ops : Array Oper} {rest : List Oper} {o : Oper} {a : Act} {Q : Exit → Act → World → Prop} (hgd : o.guard = none) (s x : Operand) (t : TypeId)
    (ho : o.op = .call { callee := .builtin .append, args := #[s, x], argTypes := #[t, t] })
    (e : TypeId) (i : TypeInfo) (z : Value) (bytes : Nat) (ht : P.underlying t = some (.slice e)) (hi : P.info? e = some i) (hz : i.zero = some z) (hsize : i.size = 1) (hby : i.bytes = bytes) (hzs : z.cells.size = 1)
    (hs : a.eval s = .slice none 0 0) (B n c : Nat) (p : Option Addr) (xs : List Value) (hx : a.eval x = .slice p n c) (hr : w.ownsRow B e 1 (.slice p n c) n xs) (h1 : ∀ u ∈ xs, u.oneCell' = true) (hn : n ≤ 65536) (hb : bytes ≤ 8)
    (h : ∀ v' w', w'.ownsRow w.heap.size e 1 v' n xs → w.grownBy w' none → wpList P ops Q rest (a.put o.dst v') w') : wpList P ops Q (o :: rest) a w := by
  rcases p with _ | ad
  · have hv : c = 0 ∧ n = 0 := by
      rcases hr.2 with ⟨he, h0⟩ | ⟨g, c', cur, he, _⟩
      · injection he with _ _ hc; exact ⟨hc, h0⟩
      · injection he with he _ _; cases he
    obtain ⟨rfl, rfl⟩ := hv
    have hxs : xs = [] := List.eq_nil_of_length_eq_zero (by simpa using hr.1)
    subst hxs
    refine wpList_append_own_none hgd s x t ho w.heap.size e i 1 ht hi (.slice none 0 0) 0 [] hs (World.ownsRow_nil _ _ _ _) hx ?_
    exact h _ _ (World.ownsRow_nil _ _ _ _) ⟨rfl, rfl, rfl, Nat.le_refl _, fun _ _ _ => rfl⟩
  · have hg : ∃ g, ad = ⟨g, 0, none⟩ := by
      rcases hr.2 with ⟨he, h0⟩ | ⟨g, c', cur, he, _⟩
      · injection he with he _ _; cases he
      · injection he with he _ _; injection he with he; exact ⟨g, he⟩
    obtain ⟨g, rfl⟩ := hg
    refine wpList_append_own w hgd s x t ho w.heap.size e i z 1 bytes ht hi hz hsize hby hzs (by decide) (.slice none 0 0) 0 [] hs (World.ownsRow_nil _ _ _ _) ⟨g, 0, none⟩ n c xs hx hr.1 (hr.cells rfl) h1 (by unfold maxLen; omega) ?_ (Nat.le_refl _) (fun v' w' h2 h3 _ => ?_)
    · have : (0 + n) * bytes ≤ 65536 * 8 := Nat.mul_le_mul (by omega) hb
      omega
    · rw [Nat.zero_add, List.nil_append] at h2
      exact h v' w' h2 h3

theorem step_clone {P : Program} (w : World) {ops : Array Oper} {o : Oper} {a : Act} {K : Act → World → Prop} {Q : Exit → Act → World → Prop} {E : Prop} (hgd : o.guard = none) (s x : Operand) (t : TypeId)
    (ho : o.op = .call { callee := .builtin .append, args := #[s, x], argTypes := #[t, t] })
    (e : TypeId) (i : TypeInfo) (z : Value) (bytes : Nat) (ht : P.underlying t = some (.slice e)) (hi : P.info? e = some i) (hz : i.zero = some z) (hsize : i.size = 1) (hby : i.bytes = bytes) (hzs : z.cells.size = 1)
    (hs : a.eval s = .slice none 0 0) (B n c : Nat) (p : Option Addr) (xs : List Value) (hx : a.eval x = .slice p n c) (hr : w.ownsRow B e 1 (.slice p n c) n xs) (h1 : ∀ u ∈ xs, u.oneCell' = true) (hn : n ≤ 65536) (hb : bytes ≤ 8)
    (h : ∀ v' w', w'.ownsRow w.heap.size e 1 v' n xs → w.grownBy w' none → K (a.put o.dst v') w') : if Region.wanted o (yielded ops a.tmps) = true then Oper.wp P o a w K Q else E := by
  have hw : Region.wanted o (yielded ops a.tmps) = true := by simp [Region.wanted, hgd]
  rw [if_pos hw]
  rcases p with _ | ad
  · have hv : c = 0 ∧ n = 0 := by
      rcases hr.2 with ⟨he, h0⟩ | ⟨g, c', cur, he, _⟩
      · injection he with _ _ hc; exact ⟨hc, h0⟩
      · injection he with he _ _; cases he
    obtain ⟨rfl, rfl⟩ := hv
    have hxs : xs = [] := List.eq_nil_of_length_eq_zero (by simpa using hr.1)
    subst hxs
    have hrun := run_append_owned_none (P := P) (w := w) w.heap.size t o.type e i 1 ht hi (.slice none 0 0) 0 [] (World.ownsRow_nil _ _ _ _)
    unfold Oper.wp
    simp [execOp, ho, resolve, invoke, builtin, hs, hx, hrun, Result.andThen]
    exact h _ _ (World.ownsRow_nil _ _ _ _) ⟨rfl, rfl, rfl, Nat.le_refl _, fun _ _ _ => rfl⟩
  · have hg : ∃ g, ad = ⟨g, 0, none⟩ := by
      rcases hr.2 with ⟨he, h0⟩ | ⟨g, c', cur, he, _⟩
      · injection he with he _ _; cases he
      · injection he with he _ _; injection he with he; exact ⟨g, he⟩
    obtain ⟨g, rfl⟩ := hg
    refine wp_append_own w s x t ho w.heap.size e i z 1 bytes ht hi hz hsize hby hzs (by decide) (.slice none 0 0) 0 [] hs (World.ownsRow_nil _ _ _ _) ⟨g, 0, none⟩ n c xs hx hr.1 (hr.cells rfl) h1 (by unfold maxLen; omega) ?_ (Nat.le_refl _) (fun v' w' h2 h3 _ => ?_)
    · have : (0 + n) * bytes ≤ 65536 * 8 := Nat.mul_le_mul (by omega) hb
      omega
    · rw [Nat.zero_add, List.nil_append] at h2
      exact h v' w' h2 h3

theorem ints_one (l : List Nat) : ∀ u ∈ ints l, u.oneCell' = true := by
  intro u hu
  simp [ints] at hu
  obtain ⟨i, _, rfl⟩ := hu
  rfl
end Go.Proofs.Ytgcnccfmfnifbaa
