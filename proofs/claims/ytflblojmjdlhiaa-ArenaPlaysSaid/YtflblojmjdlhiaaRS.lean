/- The specification's Free whatever the slot, and Copy. -/
import Derived.Test.YtflblojmjdlhiaaRQ
import Derived.Laws.AppendOwnNone
import Derived.Deep.RegionLaw
import Derived.Deep.CutRange
set_option linter.unusedVariables false
set_option linter.unusedSimpArgs false
namespace Go.Proofs.Ytflblojmjdlhiaa
open Go.RowKit

set_option maxHeartbeats 1000000 in
theorem rfree_t {B : Nat} {w : World} {r : Nat} {own : List Nat} {A : Ar} (h : RAt B w r own A) (ok : A.ok) (i : Int) (hB : B ≤ w.heap.size) :
    Calls Try.prog 19 #[.pointer (some ⟨r, 0, none⟩), .int .i64 i] w fun e w' => e = .returned (.int .i64 (A.freeE i)) ∧ RGoes B w r own (A.free' i) w' := by
  by_cases hi : 0 ≤ i ∧ i < (A.cap : Int)
  · obtain ⟨k, rfl⟩ : ∃ k : Nat, i = (k : Int) := ⟨i.toNat, by omega⟩
    have hk : k < A.cap := by omega
    obtain ⟨fe, ff⟩ := freeE_facts (A := A) (x := k) hk
    rw [fe, ff]
    cases hu : A.used k with
    | true => exact rfree_ok h ok k hu hB
    | false =>
      have H := hide h
      obtain ⟨vI, vC, vR, M, hown⟩ := h
      obtain ⟨c0, c1, c2, c3, c4⟩ := M.c
      obtain ⟨pI, cI, rfl⟩ := row_slice M.I
      obtain ⟨gI, rfl, hcI, hfI, _⟩ := row_cell M.I hk
      rw [outs_get A hk, hu] at hcI
      have v0 := rvalid_t r w c0
      have ex := rex_t r (k : Int) A.cap w c0 c1
      rw [show decide (0 ≤ (k : Int) ∧ (k : Int) < (A.cap : Int)) = true by simp; omega] at ex
      clear M hown c3 c4 fe ff hu ok hB hi
      go_enter Try.func19, Try.ntmps19
      go_wp2_with (first | (go_at_call 40; refine v0.mono ?_; rintro e w' ⟨rfl, rfl⟩) | (go_at_call 41; refine ex.mono ?_; rintro e w' ⟨rfl, rfl⟩))
      go_ret
      exact ⟨rfl, H.out.goes (Kp.refl _ _)⟩
  · have hu := (used_out ok hi).1
    have fe : A.freeE i = 3 := by unfold Ar.freeE; rw [if_pos (by omega)]
    have ff : A.free' i = A := by unfold Ar.free'; rw [hu]; rfl
    rw [fe, ff]
    have H := hide h
    obtain ⟨vI, vC, vR, M, hown⟩ := h
    obtain ⟨c0, c1, c2, c3, c4⟩ := M.c
    have v0 := rvalid_t r w c0
    have ex := rex_t r i A.cap w c0 c1
    rw [show decide (0 ≤ i ∧ i < (A.cap : Int)) = false by simp; omega] at ex
    clear M hown c2 c3 c4 fe ff hu ok hB hi
    go_enter Try.func19, Try.ntmps19
    go_wp2_with (first | (go_at_call 40; refine v0.mono ?_; rintro e w' ⟨rfl, rfl⟩) | (go_at_call 41; refine ex.mono ?_; rintro e w' ⟨rfl, rfl⟩))
    go_ret
    exact ⟨rfl, H.out.goes (Kp.refl _ _)⟩
theorem rfree_nil (i : Int) (w : World) :
    Calls Try.prog 19 #[.pointer none, .int .i64 i] w fun e w' => e = .returned (.int .i64 1) ∧ w = w' := by
  have v0 := rvalid_nil w
  go_enter Try.func19, Try.ntmps19
  go_wp2_with (go_at_call 40; refine v0.mono ?_; rintro e w' ⟨rfl, rfl⟩)
  go_ret
  exact ⟨rfl, rfl⟩
theorem rcopy_nil (w : World) :
    Calls Try.prog 21 #[.pointer none] w fun e w' => e = .returned (.pointer none) ∧ w = w' := by
  have v0 := rvalid_nil w
  go_enter Try.func21, Try.ntmps21
  go_wp2_with (go_at_call 40; refine v0.mono ?_; rintro e w' ⟨rfl, rfl⟩)
  go_ret
  exact ⟨rfl, rfl⟩
/-- a row is appended to nothing -/
theorem wpList_clone {P : Program} (w : World) {ops : Array Oper} {rest : List Oper} {o : Oper} {a : Act} {Q : Exit → Act → World → Prop} (hgd : o.guard = none) (s x : Operand) (t : TypeId)
    (ho : o.op = .call { callee := .builtin .append, args := #[s, x], argTypes := #[t, t] })
    (e : TypeId) (i : TypeInfo) (z : Value) (bytes : Nat) (ht : P.underlying t = some (.slice e)) (hi : P.info? e = some i) (hz : i.zero = some z) (hsize : i.size = 1) (hby : i.bytes = bytes) (hzs : z.cells.size = 1)
    (hs : a.eval s = .slice none 0 0) (B n c : Nat) (p : Option Addr) (xs : List Value) (hx : a.eval x = .slice p n c) (hr : w.ownsRow B e 1 (.slice p n c) n xs) (h1 : ∀ u ∈ xs, u.oneCell' = true) (hn : n ≤ 65536) (hb : bytes ≤ 8)
    (h : ∀ v' w', w'.ownsRow w.heap.size e 1 v' n xs → w.grownBy w' none → wpList P ops Q rest (a.put o.dst v') w') : wpList P ops Q (o :: rest) a w := by
  rcases p with _ | ad
  · have hv : c = 0 ∧ n = 0 := by
      rcases hr.2 with ⟨he, h0⟩ | ⟨g, c', cur, he, _⟩
      · injection he with _ _ hc; exact ⟨hc, h0⟩
      · injection he with he _ _; cases he
    obtain ⟨rfl, rfl⟩ := hv
    have hxs : xs = [] := List.eq_nil_of_length_eq_zero (by simpa using hr.1)
    subst hxs
    refine wpList_append_own_none hgd s x t ho w.heap.size e i 1 ht hi (.slice none 0 0) 0 [] hs (World.ownsRow_nil _ _ _ _) hx ?_
    exact h _ _ (World.ownsRow_nil _ _ _ _) ⟨rfl, rfl, rfl, Nat.le_refl _, fun _ _ _ => rfl⟩
  · have hg : ∃ g, ad = ⟨g, 0, none⟩ := by
      rcases hr.2 with ⟨he, h0⟩ | ⟨g, c', cur, he, _⟩
      · injection he with he _ _; cases he
      · injection he with he _ _; injection he with he; exact ⟨g, he⟩
    obtain ⟨g, rfl⟩ := hg
    refine wpList_append_own w hgd s x t ho w.heap.size e i z 1 bytes ht hi hz hsize hby hzs (by decide) (.slice none 0 0) 0 [] hs (World.ownsRow_nil _ _ _ _) ⟨g, 0, none⟩ n c xs hx hr.1 (hr.cells rfl) h1 (by unfold maxLen; omega) ?_ (Nat.le_refl _) (fun v' w' h2 h3 _ => ?_)
    · have : (0 + n) * bytes ≤ 65536 * 8 := Nat.mul_le_mul (by omega) hb
      omega
    · rw [Nat.zero_add, List.nil_append] at h2
      exact h v' w' h2 h3
theorem build68z (n : Int) (w : World) : (Instr.build 68 #[(0, .bool true), (1, .int .i64 n)]).run Try.prog w = .ok (.agg #[.bool true, .int .i64 n, .slice none 0 0, .slice none 0 0, .slice none 0 0]) w := by kernel_rfl
theorem outs_one (A : Ar) (n : Nat) : ∀ u ∈ outs A n, u.oneCell' = true := by
  intro u hu
  simp [outs] at hu
  obtain ⟨i, _, rfl⟩ := hu
  rfl
theorem cnts_one (A : Ar) (n : Nat) : ∀ u ∈ cnts A n, u.oneCell' = true := by
  intro u hu
  simp [cnts] at hu
  obtain ⟨i, _, rfl⟩ := hu
  rfl
theorem ints_one (l : List Nat) : ∀ u ∈ ints l, u.oneCell' = true := by
  intro u hu
  simp [ints] at hu
  obtain ⟨i, _, rfl⟩ := hu
  rfl
/-- a copy that is being made: the new block, and what it holds so far -/
structure CopyI (w wr : World) (d cap : Nat) (x y z : Value) : Prop where
  blk : wr.heap[d]? = some (.cells #[.bool true, .int .i64 (cap : Int), x, y, z] 68 (0, 0))
  k : Kp [] w wr
  hd : w.heap.size ≤ d
theorem CopyI.draw {w wr : World} {d cap : Nat} {x y z : Value} (h : CopyI w wr d cap x y z) : CopyI w wr.drew d cap x y z := ⟨h.blk, h.k.trans (Kp.drewN [] wr 1) (by simp), h.hd⟩
theorem RMem.keep2 {B : Nat} {w w' : World} {r : Nat} {vI vC vR : Value} {A : Ar} (M : RMem B w r vI vC vR A) (k : Kp [] w w') : RMem B w' r vI vC vR A :=
  ⟨k.blk M.blk (by simp), k.row M.I (by simp), k.row M.C (by simp), k.row M.R (by simp), M.ge, M.nd⟩

theorem step_clone {P : Program} (w : World) {ops : Array Oper} {o : Oper} {a : Act} {K : Act → World → Prop} {Q : Exit → Act → World → Prop} {E : Prop} (hgd : o.guard = none) (s x : Operand) (t : TypeId)
    (ho : o.op = .call { callee := .builtin .append, args := #[s, x], argTypes := #[t, t] })
    (e : TypeId) (i : TypeInfo) (z : Value) (bytes : Nat) (ht : P.underlying t = some (.slice e)) (hi : P.info? e = some i) (hz : i.zero = some z) (hsize : i.size = 1) (hby : i.bytes = bytes) (hzs : z.cells.size = 1)
    (hs : a.eval s = .slice none 0 0) (B n c : Nat) (p : Option Addr) (xs : List Value) (hx : a.eval x = .slice p n c) (hr : w.ownsRow B e 1 (.slice p n c) n xs) (h1 : ∀ u ∈ xs, u.oneCell' = true) (hn : n ≤ 65536) (hb : bytes ≤ 8)
    (h : ∀ v' w', w'.ownsRow w.heap.size e 1 v' n xs → w.grownBy w' none → K (a.put o.dst v') w') : if Region.wanted o (yielded ops a.tmps) = true then Oper.wp P o a w K Q else E := by
  have hw : Region.wanted o (yielded ops a.tmps) = true := by simp [Region.wanted, hgd]
  rw [if_pos hw]
  rcases p with _ | ad
  · have hv : c = 0 ∧ n = 0 := by
      rcases hr.2 with ⟨he, h0⟩ | ⟨g, c', cur, he, _⟩
      · injection he with _ _ hc; exact ⟨hc, h0⟩
      · injection he with he _ _; cases he
    obtain ⟨rfl, rfl⟩ := hv
    have hxs : xs = [] := List.eq_nil_of_length_eq_zero (by simpa using hr.1)
    subst hxs
    have hrun := run_append_owned_none (P := P) (w := w) w.heap.size t o.type e i 1 ht hi (.slice none 0 0) 0 [] (World.ownsRow_nil _ _ _ _)
    unfold Oper.wp
    simp [execOp, ho, resolve, invoke, builtin, hs, hx, hrun, Result.andThen]
    exact h _ _ (World.ownsRow_nil _ _ _ _) ⟨rfl, rfl, rfl, Nat.le_refl _, fun _ _ _ => rfl⟩
  · have hg : ∃ g, ad = ⟨g, 0, none⟩ := by
      rcases hr.2 with ⟨he, h0⟩ | ⟨g, c', cur, he, _⟩
      · injection he with he _ _; cases he
      · injection he with he _ _; injection he with he; exact ⟨g, he⟩
    obtain ⟨g, rfl⟩ := hg
    refine wp_append_own w s x t ho w.heap.size e i z 1 bytes ht hi hz hsize hby hzs (by decide) (.slice none 0 0) 0 [] hs (World.ownsRow_nil _ _ _ _) ⟨g, 0, none⟩ n c xs hx hr.1 (hr.cells rfl) h1 (by unfold maxLen; omega) ?_ (Nat.le_refl _) (fun v' w' h2 h3 _ => ?_)
    · have : (0 + n) * bytes ≤ 65536 * 8 := Nat.mul_le_mul (by omega) hb
      omega
    · rw [Nat.zero_add, List.nil_append] at h2
      exact h v' w' h2 h3
structure CopyJ (w wr : World) (d : Nat) (A : Ar) (x y z : Value) : Prop where
  c : CopyI w wr d A.cap x y z
  lx : ∀ k, x.ownBlock = some k → k < wr.heap.size
  ly : ∀ k, y.ownBlock = some k → k < wr.heap.size
  ap : Apart d x.ownBlock y.ownBlock z.ownBlock
theorem grown_size {w w' : World} {o : Option Nat} (g : w.grownBy w' o) : w.heap.size ≤ w'.heap.size := g.size
theorem CopyI.put {w v u : World} {d cap : Nat} {x y z : Value} (h : CopyI w v d cap x y z) (g : v.grownBy u none) (j : Nat) (q : Value) (x' y' z' : Value) (e : (#[Value.bool true, .int .i64 (cap : Int), x, y, z] : Array Value).setIfInBounds j q = #[.bool true, .int .i64 (cap : Int), x', y', z']) : CopyI w (u.setCell ⟨d, j, none⟩ q) d cap x' y' z' := by
  refine ⟨?_, ((h.k.grown g (fun k hk => by cases hk)).trans (Kp.set (o := [d]) _ _ _ (by simp)) (fun x hx => by simp at hx; subst hx; exact .inr h.hd)), h.hd⟩
  have B : u.heap[d]? = some (.cells #[.bool true, .int .i64 (cap : Int), x, y, z] 68 (0, 0)) := by
    rw [g.block _ (lt_of_blk h.blk) (by simp)]; exact h.blk
  rw [heap_setCell_same _ _ _ _ _ _ B, e]
theorem CopyJ.put1 {w v u : World} {d : Nat} {A : Ar} {q : Value} {n : Nat} {xs : List Value} {e : TypeId} (h : CopyJ w v d A (.slice none 0 0) (.slice none 0 0) (.slice none 0 0)) (g : v.grownBy u none) (ho : u.ownsRow v.heap.size e 1 q n xs) :
    CopyJ w (u.setCell ⟨d, 2, none⟩ q) d A q (.slice none 0 0) (.slice none 0 0) ∧ (u.setCell ⟨d, 2, none⟩ q).ownsRow w.heap.size e 1 q n xs := by
  have hd := lt_of_blk h.c.blk
  have ne : ∀ k, q.ownBlock = some k → k ≠ d := fun k hk => by have := (ho.lt k hk).1; omega
  have hw := h.c.k.size
  refine ⟨⟨h.c.put g 2 q _ _ _ rfl, fun k hk => by have := (ho.lt k hk).2; simpa [World.setCell] using this, fun k hk => by simp [Value.ownBlock] at hk, ⟨ne, fun k hk => by simp [Value.ownBlock] at hk, fun k hk => by simp [Value.ownBlock] at hk, fun k hk => by simp [Value.ownBlock], fun k hk => by simp [Value.ownBlock], fun k hk => by simp [Value.ownBlock]⟩⟩, row_mono (row_side ho ne 2 q) (by omega)⟩
theorem CopyJ.put2 {w v u : World} {d : Nat} {A : Ar} {x q : Value} {n m : Nat} {xs ys : List Value} {e f : TypeId} (h : CopyJ w v d A x (.slice none 0 0) (.slice none 0 0)) (hx : v.ownsRow w.heap.size f 1 x m ys) (g : v.grownBy u none) (ho : u.ownsRow v.heap.size e 1 q n xs) :
    CopyJ w (u.setCell ⟨d, 3, none⟩ q) d A x q (.slice none 0 0) ∧ (u.setCell ⟨d, 3, none⟩ q).ownsRow w.heap.size f 1 x m ys ∧ (u.setCell ⟨d, 3, none⟩ q).ownsRow w.heap.size e 1 q n xs := by
  have hd := lt_of_blk h.c.blk
  have ne : ∀ k, q.ownBlock = some k → k ≠ d := fun k hk => by have := (ho.lt k hk).1; omega
  have hw := h.c.k.size
  have gs := g.size
  refine ⟨⟨h.c.put g 3 q _ _ _ rfl, fun k hk => by have := h.lx k hk; simp [World.setCell]; omega, fun k hk => by have := (ho.lt k hk).2; simpa [World.setCell] using this, ⟨h.ap.ra, ne, fun k hk => by simp [Value.ownBlock] at hk, fun k hk e => by have := h.lx k hk; have := (ho.lt k e).1; omega, fun k hk => by simp [Value.ownBlock], fun k hk => by simp [Value.ownBlock]⟩⟩, row_side (fresh_row hx g (fun k hk => by simp)) h.ap.ra 3 q, row_mono (row_side ho ne 3 q) (by omega)⟩
theorem CopyJ.put3 {w v u : World} {d : Nat} {A : Ar} {x y q : Value} {n m l : Nat} {xs ys zs : List Value} {e f k2 : TypeId} (h : CopyJ w v d A x y (.slice none 0 0)) (hx : v.ownsRow w.heap.size f 1 x m ys) (hy : v.ownsRow w.heap.size k2 1 y l zs) (g : v.grownBy u none) (ho : u.ownsRow v.heap.size e 1 q n xs) :
    CopyJ w (u.setCell ⟨d, 4, none⟩ q) d A x y q ∧ (u.setCell ⟨d, 4, none⟩ q).ownsRow w.heap.size f 1 x m ys ∧ (u.setCell ⟨d, 4, none⟩ q).ownsRow w.heap.size k2 1 y l zs ∧ (u.setCell ⟨d, 4, none⟩ q).ownsRow w.heap.size e 1 q n xs := by
  have hd := lt_of_blk h.c.blk
  have ne : ∀ k, q.ownBlock = some k → k ≠ d := fun k hk => by have := (ho.lt k hk).1; omega
  have hw := h.c.k.size
  have gs := g.size
  refine ⟨⟨h.c.put g 4 q _ _ _ rfl, fun k hk => by have := h.lx k hk; simp [World.setCell]; omega, fun k hk => by have := h.ly k hk; simp [World.setCell]; omega, ⟨h.ap.ra, h.ap.rb, ne, h.ap.ab, fun k hk e => by have := h.lx k hk; have := (ho.lt k e).1; omega, fun k hk e => by have := h.ly k hk; have := (ho.lt k e).1; omega⟩⟩, row_side (fresh_row hx g (fun k hk => by simp)) h.ap.ra 4 q, row_side (fresh_row hy g (fun k hk => by simp)) h.ap.rb 4 q, row_mono (row_side ho ne 4 q) (by omega)⟩
theorem CopyJ.drew {w wr : World} {d : Nat} {A : Ar} {x y z : Value} (h : CopyJ w wr d A x y z) : CopyJ w wr.drew d A x y z := ⟨h.c.draw, h.lx, h.ly, h.ap⟩
theorem copy_cells {w v u : World} {d cap : Nat} {x y z : Value} (h : CopyI w v d cap x y z) (g : v.grownBy u none) : (∀ j, u.cell? ⟨d, j, none⟩ = (#[Value.bool true, .int .i64 (cap : Int), x, y, z] : Array Value)[j]?) ∧ (∀ j, u.frozen? ⟨d, j, none⟩ = false) := by
  have B : u.heap[d]? = some (.cells #[.bool true, .int .i64 (cap : Int), x, y, z] 68 (0, 0)) := by
    rw [g.block _ (lt_of_blk h.blk) (by simp)]; exact h.blk
  exact ⟨fun j => cell_of_blk B j, fun j => free_of_blk B j⟩

set_option maxRecDepth 100000 in
set_option maxHeartbeats 8000000 in
theorem rcopy_t {B : Nat} {w : World} {r : Nat} {own : List Nat} {A : Ar} (h : RAt B w r own A) (ok : A.ok) :
    Calls Try.prog 21 #[.pointer (some ⟨r, 0, none⟩)] w fun e w' => ∃ d own', e = .returned (.pointer (some ⟨d, 0, none⟩)) ∧ RAt w.heap.size w' d own' A ∧ Kp [] w w' := by
  have v0 : Calls Try.prog 40 #[.pointer (some ⟨r, 0, none⟩)] w fun e w' => e = .returned (.bool true) ∧ w = w' := by
    obtain ⟨vI, vC, vR, M, _⟩ := h
    exact rvalid_t r w M.c.1
  have HC := hide ok.cap
  have HFL := hide (show A.fr.length ≤ 65536 by have := A.fr_le ok; have := ok.le; have := ok.cap; omega)
  obtain ⟨vI, vC, vR, M, _⟩ := h
  obtain ⟨c0, c1, c2, c3, c4⟩ := M.c
  obtain ⟨pI, cI, rfl⟩ := row_slice M.I
  obtain ⟨pC, cC, rfl⟩ := row_slice M.C
  obtain ⟨pR, cR, rfl⟩ := row_slice M.R
  have HM := hide M
  have hb := build68z (A.cap : Int) w
  obtain ⟨i4, q1, q2, q3, q4⟩ := info_parts info4
  obtain ⟨i48, q5, q6, q7, q8⟩ := info_parts info48
  obtain ⟨i3, q9, q10, q11, q12⟩ := info_parts info3
  have HI := hide (And.intro q1 (And.intro q2 (And.intro q3 q4)))
  have HJ := hide (And.intro q5 (And.intro q6 (And.intro q7 q8)))
  have HK := hide (And.intro q9 (And.intro q10 (And.intro q11 q12)))
  have C0 : Hid (CopyJ w (w.alloc (.cells #[.bool true, .int .i64 (A.cap : Int), .slice none 0 0, .slice none 0 0, .slice none 0 0] 68)) w.heap.size A (.slice none 0 0) (.slice none 0 0) (.slice none 0 0)) := ⟨⟨heap_alloc_new _ _, .of_below ((Below.refl _ _).alloc (Nat.le_refl _) _), Nat.le_refl _⟩, fun k hk => by simp [Value.ownBlock] at hk, fun k hk => by simp [Value.ownBlock] at hk, ⟨fun k hk => by simp [Value.ownBlock] at hk, fun k hk => by simp [Value.ownBlock] at hk, fun k hk => by simp [Value.ownBlock] at hk, fun k hk => by simp [Value.ownBlock], fun k hk => by simp [Value.ownBlock], fun k hk => by simp [Value.ownBlock]⟩⟩
  clear M c0 c2 c3 c4 ok q1 q2 q3 q4 q5 q6 q7 q8 q9 q10 q11 q12
  go_enter Try.func21, Try.ntmps21
  go_wp2_with (first | (go_at_call 40; refine v0.mono ?_; rintro e w' ⟨rfl, rfl⟩))
  clear hb v0 c1
  generalize (w.alloc (.cells #[.bool true, .int .i64 (A.cap : Int), .slice none 0 0, .slice none 0 0, .slice none 0 0] 68)) = w1 at *
  generalize hd : w.heap.size = d at *
  have HD := hide hd
  clear hd
  go_cut [3] from 4 (fun o wr => o = .pointer (some ⟨d, 0, none⟩) ∧ ∃ (p1 : Option Addr) (d1 : Nat), Hid (CopyJ w wr d A (.slice p1 A.cap d1) (.slice none 0 0) (.slice none 0 0)) ∧ Hid (wr.ownsRow d 4 1 (.slice p1 A.cap d1) A.cap (outs A A.cap)))
  case first =>
    have a2 : w1.cell? ⟨d, 2, none⟩ = some (.slice none 0 0) := by simp [cell_of_blk C0.out.c.blk]
    have f2 : w1.frozen? ⟨d, 2, none⟩ = false := free_of_blk C0.out.c.blk _
    have M1 := hide (HM.out.keep2 C0.out.c.k)
    have b2 : w1.cell? ⟨r, 2, none⟩ = some (.slice pI A.cap cI) := by simp [cell_of_blk M1.out.blk]
    go_region_law (first | (refine step_clone _ rfl _ _ 65 rfl 4 i4 (.bool false) 1 Try.underlying65 HI.out.1 HI.out.2.1 HI.out.2.2.1 HI.out.2.2.2 rfl rfl B A.cap cI pI (outs A A.cap) rfl (M1.out.I.drew) (outs_one _ _) HC.out (by omega) ?_; intro x1 u1 ho hg; obtain ⟨q1, e1, rfl⟩ := row_slice ho; have g1 := copy_cells C0.out.drew.c hg; obtain ⟨g1, g2⟩ := g1; have g3 := g1 2; have g4 := g2 2; simp at g3; have HG := hide (And.intro ho hg); clear ho hg g1 g2))
    all_goals
      go_wp2_with fail
      go_meet
      case rel =>
        obtain ⟨ho, hg⟩ := HG.out
        obtain ⟨J, r1⟩ := C0.out.drew.put1 hg ho
        exact ⟨rfl, q1, e1, J, (by rw [HD.out] at r1; exact r1)⟩
  case rest =>
    obtain ⟨rfl, p1, d1, C1, R1_1⟩ := hcut
    clear C0
    go_wp2_with fail
    go_cut [3] from 4 (fun o wr => o = .pointer (some ⟨d, 0, none⟩) ∧ ∃ (p2 : Option Addr) (d2 : Nat), Hid (CopyJ w wr d A (.slice p1 A.cap d1) (.slice p2 A.cap d2) (.slice none 0 0)) ∧ Hid (wr.ownsRow d 4 1 (.slice p1 A.cap d1) A.cap (outs A A.cap)) ∧ Hid (wr.ownsRow d 48 1 (.slice p2 A.cap d2) A.cap (cnts A A.cap)))
    case first =>
      have a2 : wc.cell? ⟨d, 3, none⟩ = some (.slice none 0 0) := by simp [cell_of_blk C1.out.c.blk]
      have f2 : wc.frozen? ⟨d, 3, none⟩ = false := free_of_blk C1.out.c.blk _
      have M1 := hide (HM.out.keep2 C1.out.c.k)
      have b2 : wc.cell? ⟨r, 3, none⟩ = some (.slice pC A.cap cC) := by simp [cell_of_blk M1.out.blk]
      go_region_law (first | (refine step_clone _ rfl _ _ 66 rfl 48 i48 (.int .u64 0) 8 Try.underlying66 HJ.out.1 HJ.out.2.1 HJ.out.2.2.1 HJ.out.2.2.2 rfl rfl B A.cap cC pC (cnts A A.cap) rfl (M1.out.C.drew) (cnts_one _ _) HC.out (by omega) ?_; intro x1 u1 ho hg; obtain ⟨q1, e1, rfl⟩ := row_slice ho; have g1 := copy_cells C1.out.drew.c hg; obtain ⟨g1, g2⟩ := g1; have g3 := g1 3; have g4 := g2 3; simp at g3; have HG := hide (And.intro ho hg); clear ho hg g1 g2))
      all_goals
        go_wp2_with fail
        go_meet
        case rel =>
          obtain ⟨ho, hg⟩ := HG.out
          obtain ⟨J, r1, r2⟩ := C1.out.drew.put2 (by rw [HD.out]; exact R1_1.out.drew) hg ho
          exact ⟨rfl, q1, e1, J, (by rw [HD.out] at r1; exact r1), (by rw [HD.out] at r2; exact r2)⟩
    case rest =>
      obtain ⟨rfl, p2, d2, C2, R2_1, R2_2⟩ := hcut
      clear C1 R1_1
      go_wp2_with fail
      go_cut [3] from 4 (fun o wr => o = .pointer (some ⟨d, 0, none⟩) ∧ ∃ (p3 : Option Addr) (d3 : Nat), Hid (CopyJ w wr d A (.slice p1 A.cap d1) (.slice p2 A.cap d2) (.slice p3 A.fr.length d3)) ∧ Hid (wr.ownsRow d 4 1 (.slice p1 A.cap d1) A.cap (outs A A.cap)) ∧ Hid (wr.ownsRow d 48 1 (.slice p2 A.cap d2) A.cap (cnts A A.cap)) ∧ Hid (wr.ownsRow d 3 1 (.slice p3 A.fr.length d3) A.fr.length (ints A.fr.reverse)))
      case first =>
        have a2 : wc.cell? ⟨d, 4, none⟩ = some (.slice none 0 0) := by simp [cell_of_blk C2.out.c.blk]
        have f2 : wc.frozen? ⟨d, 4, none⟩ = false := free_of_blk C2.out.c.blk _
        have M1 := hide (HM.out.keep2 C2.out.c.k)
        have b2 : wc.cell? ⟨r, 4, none⟩ = some (.slice pR A.fr.length cR) := by simp [cell_of_blk M1.out.blk]
        go_region_law (first | (refine step_clone _ rfl _ _ 51 rfl 3 i3 (.int .i64 0) 8 Try.underlying51 HK.out.1 HK.out.2.1 HK.out.2.2.1 HK.out.2.2.2 rfl rfl B A.fr.length cR pR (ints A.fr.reverse) rfl (M1.out.R.drew) (ints_one _) HFL.out (by omega) ?_; intro x1 u1 ho hg; obtain ⟨q1, e1, rfl⟩ := row_slice ho; have g1 := copy_cells C2.out.drew.c hg; obtain ⟨g1, g2⟩ := g1; have g3 := g1 4; have g4 := g2 4; simp at g3; have HG := hide (And.intro ho hg); clear ho hg g1 g2))
        all_goals
          go_wp2_with fail
          go_meet
          case rel =>
            obtain ⟨ho, hg⟩ := HG.out
            obtain ⟨J, r1, r2, r3⟩ := C2.out.drew.put3 (by rw [HD.out]; exact R2_1.out.drew) (by rw [HD.out]; exact R2_2.out.drew) hg ho
            exact ⟨rfl, q1, e1, J, (by rw [HD.out] at r1; exact r1), (by rw [HD.out] at r2; exact r2), (by rw [HD.out] at r3; exact r3)⟩
      case rest =>
        obtain ⟨rfl, p3, d3, C3, R3_1, R3_2, R3_3⟩ := hcut
        clear C2 R2_1 R2_2
        go_wp2_with fail
        go_ret
        have M := C3.out
        exact ⟨d, _, rfl, ⟨_, _, _, ⟨M.c.blk, (by rw [HD.out]; exact R3_1.out), (by rw [HD.out]; exact R3_2.out), (by rw [HD.out]; exact R3_3.out), (by rw [HD.out]; exact Nat.le_refl _), nd_parts.2 M.ap⟩, rfl⟩, M.c.k⟩
end Go.Proofs.Ytflblojmjdlhiaa
