/- Counters in memory; valid, Len, Total. -/
import Derived.Test.YtgcnccfmfnifbaaFw
set_option linter.unusedVariables false
set_option linter.unusedSimpArgs false
namespace Go.Proofs.Ytgcnccfmfnifbaa
open Go.RowKit

theorem Kp.trans0 {a b c : World} (h : Kp [] a b) (k : Kp [] b c) : Kp [] a c := h.trans k (by simp)
theorem Kp.alloc (w : World) (x : Obj) : Kp [] w (w.alloc x) := Kp.of_below ((Below.refl _ _).alloc (Nat.le_refl _) _)
theorem Kp.allocK {w W : World} (h : Kp [] w W) (o : Obj) : Kp [] w (W.alloc o) := h.trans0 (Kp.alloc _ _)
theorem Kp.at {w w' : World} (k : Kp [] w w') {b : Nat} (hb : b < w.heap.size) (o : Nat) : w'.cell? ⟨b, o, none⟩ = w.cell? ⟨b, o, none⟩ := World.cell?_of_block (w := w) (k.block b hb (by simp))
def trV (T : Nat → Int) (j : Nat) : Value := .int .i64 (T (j + 1))
structure FM (B : Nat) (w : World) (b n : Nat) (v : Value) (tot : Int) (T : Nat → Int) : Prop where
  blk : w.heap[b]? = some (.cells #[.bool true, .int .i64 tot, v] 41 (0, 0))
  row : w.ownsRow B 2 1 v n (rowV n (trV T))
  ne : ∀ k, v.ownBlock = some k → k ≠ b
  lo : B ≤ b
/-- counters: C i for i < n -/
structure FAt (B : Nat) (w : World) (b n : Nat) (own : List Nat) (C : Nat → Int) : Prop where
  mem : ∃ v, FM B w b n v (sumS C n) (tr C) ∧ own = b :: v.ownBlock.toList
  nn : ∀ i, 0 ≤ C i
  out : ∀ i, n ≤ i → C i = 0
  tot : sumS C n ≤ 9223372036854775807
  hn : n ≤ 65536
theorem FM.keep {B : Nat} {w w' : World} {b n : Nat} {v : Value} {tot : Int} {T : Nat → Int} {o : List Nat} (h : FM B w b n v tot T) (k : Kp o w w') (hb : b ∉ o) (hv : ∀ x, v.ownBlock = some x → x ∉ o) : FM B w' b n v tot T :=
  ⟨k.blk h.blk hb, k.row h.row hv, h.ne, h.lo⟩
theorem FAt.keep {B : Nat} {w w' : World} {b n : Nat} {own o : List Nat} {C : Nat → Int} (h : FAt B w b n own C) (k : Kp o w w') (d : ∀ x ∈ own, x ∉ o) : FAt B w' b n own C := by
  obtain ⟨⟨v, M, ho⟩, h1, h2, h3, h4⟩ := h
  refine ⟨⟨v, M.keep k (d b (by simp [ho])) (fun x hx => d x (by simp [ho, hx])), ho⟩, h1, h2, h3, h4⟩
theorem FAt.keep0 {B : Nat} {w w' : World} {b n : Nat} {own : List Nat} {C : Nat → Int} (h : FAt B w b n own C) (k : Kp [] w w') : FAt B w' b n own C := h.keep k (by simp)
theorem FM.lt {B : Nat} {w : World} {b n : Nat} {v : Value} {tot : Int} {T : Nat → Int} (h : FM B w b n v tot T) : b < w.heap.size := lt_of_blk h.blk
theorem FAt.own_lt {B : Nat} {w : World} {b n : Nat} {own : List Nat} {C : Nat → Int} (h : FAt B w b n own C) : ∀ x ∈ own, B ≤ x ∧ x < w.heap.size := by
  obtain ⟨⟨v, M, rfl⟩, _⟩ := h
  intro x hx
  simp at hx
  rcases hx with rfl | hx
  · exact ⟨M.lo, M.lt⟩
  · exact M.row.lt x hx
theorem upC : Try.prog.underlying 24 = some (.pointer (Try.prog.pointee 24)) := by kernel_rfl
theorem upC' : Try.prog.pointee 24 = 41 := by kernel_rfl
set_option maxHeartbeats 2000000 in
theorem valid_m {B : Nat} {w : World} {b n : Nat} {v : Value} {tot : Int} {T : Nat → Int} (M : FM B w b n v tot T) :
    Calls Try.prog 33 #[.pointer (some ⟨b, 0, none⟩)] w fun e w' => e = .returned (.bool true) ∧ w = w' := by
  have hp := upC'
  obtain ⟨c0, c1, c2⟩ : w.cell? ⟨b, 0, none⟩ = some (.bool true) ∧ w.cell? ⟨b, 1, none⟩ = some (.int .i64 tot) ∧ w.cell? ⟨b, 2, none⟩ = some v := by simp [cell_of_blk M.blk]
  clear M
  go_enter Try.func33, Try.ntmps33
  go_wp2_with fail
  go_ret
  exact ⟨rfl, rfl⟩
set_option maxHeartbeats 2000000 in
theorem len_t {B : Nat} {w : World} {b n : Nat} {own : List Nat} {C : Nat → Int} (h : FAt B w b n own C) :
    Calls Try.prog 25 #[.pointer (some ⟨b, 0, none⟩)] w fun e w' => e = .returned (.int .i64 (n : Int)) ∧ w = w' := by
  have hp := upC'
  obtain ⟨⟨v, M, ho⟩, _⟩ := h
  have V := hide (valid_m M)
  obtain ⟨p, c, rfl⟩ := row_slice M.row
  obtain ⟨c0, c1, c2⟩ : w.cell? ⟨b, 0, none⟩ = some (.bool true) ∧ w.cell? ⟨b, 1, none⟩ = some (.int .i64 (sumS C n)) ∧ w.cell? ⟨b, 2, none⟩ = some (.slice p n c) := by simp [cell_of_blk M.blk]
  clear M ho
  go_enter Try.func25, Try.ntmps25
  go_wp2_with fail
  refine V.out.mono ?_
  rintro e w' ⟨rfl, rfl⟩
  go_wp2_with fail
  go_ret
  exact ⟨rfl, rfl⟩
set_option maxHeartbeats 2000000 in
theorem total_t {B : Nat} {w : World} {b n : Nat} {own : List Nat} {C : Nat → Int} (h : FAt B w b n own C) :
    Calls Try.prog 24 #[.pointer (some ⟨b, 0, none⟩)] w fun e w' => e = .returned (.int .i64 (sumS C n)) ∧ w = w' := by
  have hp := upC'
  obtain ⟨⟨v, M, ho⟩, _⟩ := h
  have V := hide (valid_m M)
  obtain ⟨c0, c1, c2⟩ : w.cell? ⟨b, 0, none⟩ = some (.bool true) ∧ w.cell? ⟨b, 1, none⟩ = some (.int .i64 (sumS C n)) ∧ w.cell? ⟨b, 2, none⟩ = some v := by simp [cell_of_blk M.blk]
  clear M ho
  go_enter Try.func24, Try.ntmps24
  go_wp2_with fail
  refine V.out.mono ?_
  rintro e w' ⟨rfl, rfl⟩
  go_wp2_with fail
  go_ret
  exact ⟨rfl, rfl⟩
end Go.Proofs.Ytgcnccfmfnifbaa
