/- Arrays of digits in memory, and the sums and differences of magnitudes that the specification reckons. -/
import Derived.Test.YtenoalfjobghnaaR
set_option linter.unusedVariables false
set_option linter.unusedSimpArgs false
namespace Go.Proofs.Ytenoalfjobghnaa
open Go.RowKit

/-- cells of one block that hold the numbers of a list -/
structure Arr (B off : Nat) (l : List Nat) (w : World) : Prop where
  cell : ∀ i, i < l.length → w.cell? ⟨B, off + i, none⟩ = some (.int .u64 ((l.getD i 0 : Nat) : Int))
  free : ∀ i, i < l.length → w.frozen? ⟨B, off + i, none⟩ = false
  lt : B < w.heap.size
theorem Arr.drewN {B off : Nat} {l : List Nat} {w : World} (h : Arr B off l w) (n : Nat) : Arr B off l (w.drewN n) := ⟨h.cell, h.free, h.lt⟩
theorem Arr.step {B off : Nat} {l : List Nat} {w w' : World} (h : Arr B off l w) (b : Below w.heap.size w w') : Arr B off l w' :=
  ⟨fun i hi => by rw [(bcell b).1 _ _ h.lt]; exact h.cell i hi, fun i hi => by rw [(bcell b).2 _ _ h.lt]; exact h.free i hi, by have := b.size; have := h.lt; omega⟩
theorem Arr.alloc {B off : Nat} {l : List Nat} {w : World} (h : Arr B off l w) (c : Array Value) (t : TypeId) : Arr B off l (w.alloc (.cells c t)) :=
  h.step ((Below.refl _ _).alloc (Nat.le_refl _) _)
theorem heap_setCell (w : World) (a : Addr) (v : Value) : (w.setCell a v).heap.size = w.heap.size := by simp [World.setCell]
theorem cell_far6 {w : World} {a b : Addr} {v : Value} (h : a ≠ b) : (w.setCell b v).cell? a = w.cell? a := by
  exact World.cell?_setCell_other _ _ _ _ (Ne.symm h)
theorem Arr.far {B off : Nat} {l : List Nat} {w : World} (h : Arr B off l w) {a : Addr} (ha : ∀ i, i < l.length → (⟨B, off + i, none⟩ : Addr) ≠ a) (v : Value) : Arr B off l (w.setCell a v) :=
  ⟨fun i hi => by rw [cell_far6 (ha i hi)]; exact h.cell i hi, fun i hi => by rw [World.frozen?_setCell]; exact h.free i hi, by rw [heap_setCell]; exact h.lt⟩
theorem Arr.set {B off : Nat} {l : List Nat} {w : World} (h : Arr B off l w) {k : Nat} (hk : k < l.length) {n : Int} {v : Nat} (hv : n = (v : Int)) : Arr B off (l.set k v) (w.setCell ⟨B, off + k, none⟩ (.int .u64 n)) := by
  subst hv
  refine ⟨fun i hi => ?_, fun i hi => ?_, by rw [heap_setCell]; exact h.lt⟩
  · rw [List.length_set] at hi
    by_cases e : i = k
    · subst e
      rw [World.cell?_setCell_same _ _ _ (h.cell i hi)]
      simp [List.getD, hi]
    · rw [cell_far6 (fun he => e (by injection he; omega)), h.cell i hi]
      simp [List.getD, List.getElem?_set, e, Ne.symm e]
  · rw [List.length_set] at hi
    rw [World.frozen?_setCell]; exact h.free i hi

/-- the number of a list of digits -/
def nl : List Nat → Nat
  | [] => 0
  | d :: r => d + 4294967296 * nl r
def small (l : List Nat) : Prop := ∀ d ∈ l, d < 4294967296
theorem nl_append (l m : List Nat) : nl (l ++ m) = nl l + 4294967296 ^ l.length * nl m := by
  induction l with
  | nil => simp [nl]
  | cons d r ih =>
    simp only [List.cons_append, nl, ih, List.length_cons, Nat.pow_succ, Nat.mul_add]
    have e : 4294967296 ^ r.length * 4294967296 * nl m = 4294967296 * (4294967296 ^ r.length * nl m) := by
      rw [Nat.mul_comm (4294967296 ^ r.length), Nat.mul_assoc]
    rw [e]; omega
theorem nl_six (c0 c1 c2 c3 c4 c5 : Nat) : nl [c0, c1, c2, c3, c4, c5] = n6 c0 c1 c2 c3 c4 c5 := by simp [nl, n6]
theorem nl_take {l : List Nat} {k : Nat} (hk : k < l.length) : nl (l.take (k + 1)) = nl (l.take k) + 4294967296 ^ k * l.getD k 0 := by
  rw [List.take_succ_eq_append_getElem hk, nl_append]
  simp [nl, List.getD, hk, Nat.min_eq_left (Nat.le_of_lt hk)]
theorem nl_lt {l : List Nat} (h : small l) : nl l < 4294967296 ^ l.length := by
  induction l with
  | nil => simp [nl]
  | cons d r ih =>
    have h1 := h d (by simp)
    have h2 := ih (fun x hx => h x (by simp [hx]))
    simp only [nl, List.length_cons, Nat.pow_succ]
    omega
theorem small_getD {l : List Nat} (h : small l) (k : Nat) : l.getD k 0 < 4294967296 := by
  by_cases hk : k < l.length
  · have : l.getD k 0 = l[k] := by simp [List.getD, hk]
    rw [this]; exact h _ (List.getElem_mem hk)
  · have : l.getD k 0 = 0 := by simp [List.getD, hk]
    rw [this]; decide
theorem small_set {l : List Nat} (h : small l) (k : Nat) {v : Nat} (hv : v < 4294967296) : small (l.set k v) := by
  intro d hd
  rcases List.mem_or_eq_of_mem_set hd with h1 | h1
  · exact h d h1
  · omega
theorem small_six {c0 c1 c2 c3 c4 c5 : Nat} : small [c0, c1, c2, c3, c4, c5] ↔ Dig c0 c1 c2 c3 c4 c5 := by
  constructor
  · intro h; exact ⟨h _ (by simp), h _ (by simp), h _ (by simp), h _ (by simp), h _ (by simp), h _ (by simp)⟩
  · intro ⟨h0, h1, h2, h3, h4, h5⟩ d hd
    simp at hd
    rcases hd with rfl | rfl | rfl | rfl | rfl | rfl <;> assumption
theorem take_set {l : List Nat} {k v : Nat} (hk : k < l.length) : (l.set k v).take k = l.take k := by
  rw [List.take_set_of_le (Nat.le_refl _)]
theorem getD_set {l : List Nat} {k v : Nat} (hk : k < l.length) : (l.set k v).getD k 0 = v := by simp [List.getD, hk]
theorem six {l : List Nat} (h : l.length = 6) : ∃ c0 c1 c2 c3 c4 c5, l = [c0, c1, c2, c3, c4, c5] := by
  match l, h with
  | [c0, c1, c2, c3, c4, c5], _ => exact ⟨_, _, _, _, _, _, rfl⟩

/-- the sum, digit by digit: after k places -/
structure Mor (la lb : List Nat) (k cy : Nat) (o : List Nat) : Prop where
  len : o.length = 6
  sm : small o
  c1 : cy ≤ 1
  eq : nl (o.take k) + 4294967296 ^ k * cy = nl (la.take k) + nl (lb.take k)
theorem Mor.start (la lb : List Nat) : Mor la lb 0 0 [0, 0, 0, 0, 0, 0] := ⟨rfl, by intro d hd; simp at hd; omega, by omega, by simp [nl]⟩
theorem Mor.next {la lb : List Nat} {k cy : Nat} {o : List Nat} (h : Mor la lb k cy o) (ha : la.length = 6) (hb : lb.length = 6) (hk : k < 6) (sa : small la) (sb : small lb) :
    Mor la lb (k + 1) ((la.getD k 0 + lb.getD k 0 + cy) / 4294967296) (o.set k ((la.getD k 0 + lb.getD k 0 + cy) % 4294967296)) := by
  have x := small_getD sa k
  have y := small_getD sb k
  have c := h.c1
  have hl := h.len
  refine ⟨by simp [hl], small_set h.sm k (Nat.mod_lt _ (by decide)), by omega, ?_⟩
  rw [nl_take (by simp [hl]; omega), take_set (by omega), getD_set (by omega), nl_take (by omega), nl_take (by omega)]
  have e := h.eq
  have hp : 4294967296 ^ (k + 1) = 4294967296 ^ k * 4294967296 := Nat.pow_succ ..
  have hd := Nat.div_add_mod (la.getD k 0 + lb.getD k 0 + cy) 4294967296
  generalize la.getD k 0 = p at *
  generalize lb.getD k 0 = q at *
  rw [hp]
  generalize 4294967296 ^ k = B at *
  have e2 : B * ((p + q + cy) % 4294967296) + B * 4294967296 * ((p + q + cy) / 4294967296) = B * p + B * q + B * cy := by
    rw [Nat.mul_assoc, ← Nat.mul_add, Nat.add_comm, hd, Nat.mul_add, Nat.mul_add]
  omega
theorem Mor.done {la lb : List Nat} {cy : Nat} {o : List Nat} (h : Mor la lb 6 cy o) (ha : la.length = 6) (hb : lb.length = 6) (hm : nl la + nl lb < 4294967296 ^ 6) : nl o = nl la + nl lb := by
  have e := h.eq
  have c := h.c1
  rw [List.take_of_length_le (by rw [h.len]; omega), List.take_of_length_le (by omega), List.take_of_length_le (by omega)] at e
  generalize nl la + nl lb = m at *
  have : cy = 0 := by
    rcases Nat.eq_zero_or_pos cy with z | z
    · exact z
    · have h1 : cy = 1 := by omega
      rw [h1] at e; omega
  rw [this] at e; omega

/-- the memory of more and less: the two magnitudes, the result's place, the digits that are made -/
structure Mem (w : World) (la lb o : List Nat) (wr : World) : Prop where
  a : Arr w.heap.size 0 la wr
  b : Arr (w.heap.size + 1) 0 lb wr
  r : Arr (w.heap.size + 1 + 1) 0 [0, 0, 0, 0, 0, 0] wr
  o : Arr (w.heap.size + 1 + 1 + 1) 0 o wr
  bel : Below w.heap.size w wr
theorem Mem.set {w wr : World} {la lb o : List Nat} (h : Mem w la lb o wr) {k : Nat} (hk : k < o.length) {n : Int} {v : Nat} (hv : n = (v : Int)) : Mem w la lb (o.set k v) (wr.setCell ⟨w.heap.size + 1 + 1 + 1, k, none⟩ (.int .u64 n)) := by
  have ho := h.o.set hk hv
  rw [Nat.zero_add] at ho
  exact ⟨h.a.far (fun i _ => by simp) _, h.b.far (fun i _ => by simp) _, h.r.far (fun i _ => by simp) _, ho, h.bel.setCell (by simp; omega) _⟩
theorem Mem.drewN {w wr : World} {la lb o : List Nat} (h : Mem w la lb o wr) (n : Nat) : Mem w la lb o (wr.drewN n) := ⟨h.a.drewN n, h.b.drewN n, h.r.drewN n, h.o.drewN n, below_drewN h.bel n⟩

theorem Arr.new (w : World) (c0 c1 c2 c3 c4 c5 : Nat) (t : TypeId) : Arr w.heap.size 0 [c0, c1, c2, c3, c4, c5] (w.alloc (.cells #[.int .u64 (c0 : Int), .int .u64 (c1 : Int), .int .u64 (c2 : Int), .int .u64 (c3 : Int), .int .u64 (c4 : Int), .int .u64 (c5 : Int)] t)) := by
  refine ⟨fun i hi => ?_, fun i hi => by simp [go_sem], by simp⟩
  simp at hi
  match i, hi with
  | 0, _ => simp [go_sem]
  | 1, _ => simp [go_sem]
  | 2, _ => simp [go_sem]
  | 3, _ => simp [go_sem]
  | 4, _ => simp [go_sem]
  | 5, _ => simp [go_sem]
theorem Mem.start (w : World) (a0 a1 a2 a3 a4 a5 b0 b1 b2 b3 b4 b5 : Nat) : Mem w [a0, a1, a2, a3, a4, a5] [b0, b1, b2, b3, b4, b5] [0, 0, 0, 0, 0, 0]
    ((((w.alloc (.cells #[.int .u64 (a0 : Int), .int .u64 (a1 : Int), .int .u64 (a2 : Int), .int .u64 (a3 : Int), .int .u64 (a4 : Int), .int .u64 (a5 : Int)] 84)).alloc (.cells #[.int .u64 (b0 : Int), .int .u64 (b1 : Int), .int .u64 (b2 : Int), .int .u64 (b3 : Int), .int .u64 (b4 : Int), .int .u64 (b5 : Int)] 84)).alloc (.cells #[.int .u64 ((0 : Nat) : Int), .int .u64 ((0 : Nat) : Int), .int .u64 ((0 : Nat) : Int), .int .u64 ((0 : Nat) : Int), .int .u64 ((0 : Nat) : Int), .int .u64 ((0 : Nat) : Int)] 84)).alloc (.cells #[.int .u64 ((0 : Nat) : Int), .int .u64 ((0 : Nat) : Int), .int .u64 ((0 : Nat) : Int), .int .u64 ((0 : Nat) : Int), .int .u64 ((0 : Nat) : Int), .int .u64 ((0 : Nat) : Int)] 84)) := by
  have x1 := Arr.new w a0 a1 a2 a3 a4 a5 84
  have x2 := Arr.new (w.alloc (.cells #[.int .u64 (a0 : Int), .int .u64 (a1 : Int), .int .u64 (a2 : Int), .int .u64 (a3 : Int), .int .u64 (a4 : Int), .int .u64 (a5 : Int)] 84)) b0 b1 b2 b3 b4 b5 84
  have x3 := Arr.new ((w.alloc (.cells #[.int .u64 (a0 : Int), .int .u64 (a1 : Int), .int .u64 (a2 : Int), .int .u64 (a3 : Int), .int .u64 (a4 : Int), .int .u64 (a5 : Int)] 84)).alloc (.cells #[.int .u64 (b0 : Int), .int .u64 (b1 : Int), .int .u64 (b2 : Int), .int .u64 (b3 : Int), .int .u64 (b4 : Int), .int .u64 (b5 : Int)] 84)) 0 0 0 0 0 0 84
  have x4 := Arr.new (((w.alloc (.cells #[.int .u64 (a0 : Int), .int .u64 (a1 : Int), .int .u64 (a2 : Int), .int .u64 (a3 : Int), .int .u64 (a4 : Int), .int .u64 (a5 : Int)] 84)).alloc (.cells #[.int .u64 (b0 : Int), .int .u64 (b1 : Int), .int .u64 (b2 : Int), .int .u64 (b3 : Int), .int .u64 (b4 : Int), .int .u64 (b5 : Int)] 84)).alloc (.cells #[.int .u64 ((0 : Nat) : Int), .int .u64 ((0 : Nat) : Int), .int .u64 ((0 : Nat) : Int), .int .u64 ((0 : Nat) : Int), .int .u64 ((0 : Nat) : Int), .int .u64 ((0 : Nat) : Int)] 84)) 0 0 0 0 0 0 84
  rw [show (w.alloc (.cells #[.int .u64 (a0 : Int), .int .u64 (a1 : Int), .int .u64 (a2 : Int), .int .u64 (a3 : Int), .int .u64 (a4 : Int), .int .u64 (a5 : Int)] 84)).heap.size = w.heap.size + 1 by simp] at x2
  rw [show ((w.alloc (.cells #[.int .u64 (a0 : Int), .int .u64 (a1 : Int), .int .u64 (a2 : Int), .int .u64 (a3 : Int), .int .u64 (a4 : Int), .int .u64 (a5 : Int)] 84)).alloc (.cells #[.int .u64 (b0 : Int), .int .u64 (b1 : Int), .int .u64 (b2 : Int), .int .u64 (b3 : Int), .int .u64 (b4 : Int), .int .u64 (b5 : Int)] 84)).heap.size = w.heap.size + 1 + 1 by simp] at x3
  rw [show (((w.alloc (.cells #[.int .u64 (a0 : Int), .int .u64 (a1 : Int), .int .u64 (a2 : Int), .int .u64 (a3 : Int), .int .u64 (a4 : Int), .int .u64 (a5 : Int)] 84)).alloc (.cells #[.int .u64 (b0 : Int), .int .u64 (b1 : Int), .int .u64 (b2 : Int), .int .u64 (b3 : Int), .int .u64 (b4 : Int), .int .u64 (b5 : Int)] 84)).alloc (.cells #[.int .u64 ((0 : Nat) : Int), .int .u64 ((0 : Nat) : Int), .int .u64 ((0 : Nat) : Int), .int .u64 ((0 : Nat) : Int), .int .u64 ((0 : Nat) : Int), .int .u64 ((0 : Nat) : Int)] 84)).heap.size = w.heap.size + 1 + 1 + 1 by simp] at x4
  exact ⟨((x1.alloc _ _).alloc _ _).alloc _ _, (x2.alloc _ _).alloc _ _, x3.alloc _ _, x4, ((((Below.refl w.heap.size w).alloc (Nat.le_refl _) _).alloc (by simp) _).alloc (by simp; omega) _).alloc (by simp; omega) _⟩

set_option maxRecDepth 100000 in
set_option maxHeartbeats 1000000 in
theorem more_t (a0 a1 a2 a3 a4 a5 b0 b1 b2 b3 b4 b5 : Nat) (ha : Dig a0 a1 a2 a3 a4 a5) (hb : Dig b0 b1 b2 b3 b4 b5) (hm : n6 a0 a1 a2 a3 a4 a5 + n6 b0 b1 b2 b3 b4 b5 < 4294967296 ^ 6) (w : World) :
    Calls Try.prog 60 #[.agg #[.int .u64 (a0 : Int), .int .u64 (a1 : Int), .int .u64 (a2 : Int), .int .u64 (a3 : Int), .int .u64 (a4 : Int), .int .u64 (a5 : Int)], .agg #[.int .u64 (b0 : Int), .int .u64 (b1 : Int), .int .u64 (b2 : Int), .int .u64 (b3 : Int), .int .u64 (b4 : Int), .int .u64 (b5 : Int)]] w (MPost (n6 a0 a1 a2 a3 a4 a5 + n6 b0 b1 b2 b3 b4 b5) w) := by
  have HA := hide ha
  have HB := hide hb
  have HM := hide hm
  clear ha hb hm
  go_enter Try.func60, Try.ntmps60
  go_wp2_with fail
  go_loopw [6, 7] (fun c i wr => ∃ (k cy : Nat) (o : List Nat), k ≤ 6 ∧ i = .int .i64 k ∧ c = .int .u64 cy ∧ Hid (Mor [a0, a1, a2, a3, a4, a5] [b0, b1, b2, b3, b4, b5] k cy o) ∧ Hid (Mem w [a0, a1, a2, a3, a4, a5] [b0, b1, b2, b3, b4, b5] o wr)) (fun _ i _ => 6 - (intOf i).toNat)
  case atStart =>
    exact ⟨0, 0, [0, 0, 0, 0, 0, 0], by omega, rfl, rfl, Mor.start _ _, Mem.start w a0 a1 a2 a3 a4 a5 b0 b1 b2 b3 b4 b5⟩
  case round =>
    obtain ⟨k, cy, o, hk, rfl, rfl, hI, hM⟩ := hrel
    by_cases hlt : k < 6
    · have ca := hM.out.a.cell k (by simp; omega)
      have cb := hM.out.b.cell k (by simp; omega)
      have co := hM.out.o.cell k (by rw [hI.out.len]; omega)
      have fo := hM.out.o.free k (by rw [hI.out.len]; omega)
      rw [Nat.zero_add] at ca cb co fo
      have xa := small_getD (small_six.2 HA.out) k
      have xb := small_getD (small_six.2 HB.out) k
      have NX := hide (hI.out.next rfl rfl hlt (small_six.2 HA.out) (small_six.2 HB.out))
      have hc1 := hI.out.c1
      have hol := hI.out.len
      generalize List.getD [a0, a1, a2, a3, a4, a5] k 0 = x at *
      generalize List.getD [b0, b1, b2, b3, b4, b5] k 0 = y at *
      generalize o.getD k 0 = z at *
      have x1 : (x : Int) < 4294967296 := by omega
      have y1 : (y : Int) < 4294967296 := by omega
      have c1 : (cy : Int) ≤ 1 := by omega
      have OL := hide hol
      have s1 : IntKind.u64.wrap ((x : Int) + (y : Int)) = (x : Int) + (y : Int) := by rw [IntKind.wrap_u64]; omega
      have s2 : IntKind.u64.wrap ((x : Int) + (y : Int) + (cy : Int)) = (x : Int) + (y : Int) + (cy : Int) := by rw [IntKind.wrap_u64]; omega
      have BD := hide (show (x : Int) + (y : Int) + (cy : Int) ≤ 8589934592 by omega)
      clear xa xb hc1 hol x1 y1 c1
      have ki : (k : Int) < 6 := by omega
      go_wp2_with fail
      go_quiet (fail)
      have bd := BD.out
      clear s1 s2
      go_wp2_with fail
      go_roundw
      case rel => exact ⟨k + 1, (x + y + cy) / 4294967296, o.set k ((x + y + cy) % 4294967296), by omega, by go_num, congrArg (Value.int .u64) (by omega), NX, (hM.out.drewN nq).set (by rw [OL.out]; exact hlt) (by omega)⟩
      case measure => simp only [intOf]; omega
    · have hke : k = 6 := by omega
      subst hke
      have hol := hI.out.len
      have hdn := hI.out.done rfl rfl (by rw [nl_six, nl_six]; exact HM.out)
      rw [nl_six, nl_six] at hdn
      obtain ⟨d0, d1, d2, d3, d4, d5, rfl⟩ := six hol
      rw [nl_six] at hdn
      have DN := hide hdn
      have SM := hide (small_six.1 hI.out.sm)
      have o0 := hM.out.o.cell 0 (by simp)
      have o1 := hM.out.o.cell 1 (by simp)
      have o2 := hM.out.o.cell 2 (by simp)
      have o3 := hM.out.o.cell 3 (by simp)
      have o4 := hM.out.o.cell 4 (by simp)
      have o5 := hM.out.o.cell 5 (by simp)
      have r0 := hM.out.r.cell 0 (by simp)
      have r1 := hM.out.r.cell 1 (by simp)
      have r2 := hM.out.r.cell 2 (by simp)
      have r3 := hM.out.r.cell 3 (by simp)
      have r4 := hM.out.r.cell 4 (by simp)
      have r5 := hM.out.r.cell 5 (by simp)
      have f0 := hM.out.r.free 0 (by simp)
      have f1 := hM.out.r.free 1 (by simp)
      have f2 := hM.out.r.free 2 (by simp)
      have f3 := hM.out.r.free 3 (by simp)
      have f4 := hM.out.r.free 4 (by simp)
      have f5 := hM.out.r.free 5 (by simp)
      simp only [Nat.zero_add, Nat.add_zero, List.getD_cons_zero, List.getD_cons_succ] at o0 o1 o2 o3 o4 o5 r0 r1 r2 r3 r4 r5 f0 f1 f2 f3 f4 f5
      have bel := hM.out.bel
      clear hdn hol
      go_wp2_with fail
      refine bodyPost_ret (v := .agg #[.int .u64 (d0 : Int), .int .u64 (d1 : Int), .int .u64 (d2 : Int), .int .u64 (d3 : Int), .int .u64 (d4 : Int), .int .u64 (d5 : Int)]) (by simp [results, Try.results60, go_sem, r0, r1, r2, r3, r4, r5]) rfl ⟨_, _, _, _, _, _, rfl, SM.out, DN.out, ?_⟩
      exact (((((bel.setCell (by simp; omega) _).setCell (by simp; omega) _).setCell (by simp; omega) _).setCell (by simp; omega) _).setCell (by simp; omega) _).setCell (by simp; omega) _
end Go.Proofs.Ytenoalfjobghnaa
