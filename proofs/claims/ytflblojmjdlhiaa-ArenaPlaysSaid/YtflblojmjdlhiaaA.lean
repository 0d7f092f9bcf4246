/- The arena in memory: its block, its slots, and what they say; the small methods. -/
import Derived.Test.YtflblojmjdlhiaaChecked
import Derived.RowKit2
import Derived.Laws.Pointers
import Derived.Laws.StructEq
import Derived.Laws.Unary
import Derived.Laws.Bits64
import Derived.Below
import Derived.BigQuiet
import Derived.OwnWalk
import Derived.LoopTactic
set_option linter.unusedVariables false
set_option linter.unusedSimpArgs false
namespace Go.Proofs.Ytflblojmjdlhiaa
open Go.RowKit

theorem hide {p : Prop} (h : p) : Hid p := h

/-- all blocks but those that are owned stay as they are -/
structure Kp (own : List Nat) (w w' : World) : Prop where
  os : w'.os = w.os
  tape : w'.tape = w.tape
  output : w'.output = w.output
  size : w.heap.size ≤ w'.heap.size
  block : ∀ k, k < w.heap.size → k ∉ own → w'.heap[k]? = w.heap[k]?
theorem Kp.refl (own : List Nat) (w : World) : Kp own w w := ⟨rfl, rfl, rfl, Nat.le_refl _, fun _ _ _ => rfl⟩
theorem Kp.drewN (own : List Nat) (w : World) (n : Nat) : Kp own w (w.drewN n) := ⟨rfl, rfl, rfl, Nat.le_refl _, fun _ _ _ => rfl⟩
theorem Kp.mono {o p : List Nat} {w w' : World} (h : Kp o w w') (s : ∀ k ∈ o, k < w.heap.size → k ∈ p) : Kp p w w' :=
  ⟨h.os, h.tape, h.output, h.size, fun k hk hp => h.block k hk (fun ho => hp (s k ho hk))⟩
theorem Kp.trans {o p : List Nat} {a b c : World} (h : Kp o a b) (k : Kp p b c) (s : ∀ x ∈ p, x ∈ o ∨ a.heap.size ≤ x) : Kp o a c :=
  ⟨k.os.trans h.os, k.tape.trans h.tape, k.output.trans h.output, Nat.le_trans h.size k.size, fun i hi ho =>
    (k.block i (Nat.lt_of_lt_of_le hi h.size) (fun hp => by rcases s i hp with h1 | h1; exact ho h1; omega)).trans (h.block i hi ho)⟩
theorem Kp.below {o : List Nat} {B : Nat} {w w' : World} (h : Kp o w w') (s : ∀ k ∈ o, B ≤ k) (hB : B ≤ w.heap.size) : Below B w w' :=
  ⟨h.os, h.tape, h.output, h.size, fun k hk => h.block k (by omega) (fun ho => by have := s k ho; omega)⟩
theorem Kp.of_below {o : List Nat} {w w' : World} (h : Below w.heap.size w w') : Kp o w w' :=
  ⟨h.os, h.tape, h.output, h.size, fun k hk _ => h.block k hk⟩
theorem Kp.set {o : List Nat} (w : World) (a : Addr) (v : Value) (h : a.block ∈ o) : Kp o w (w.setCell a v) :=
  ⟨rfl, rfl, rfl, by simp [World.setCell], fun k hk ho => Below.heap_setCell _ _ _ _ (fun e => ho (e ▸ h))⟩

/-- an arena as numbers: its slots, how often those that were in use have been given out, and the free ones among them, the next one first -/
structure Ar where
  cap : Nat
  T : List Int
  fr : List Nat
structure Ar.ok (A : Ar) : Prop where
  le : A.T.length ≤ A.cap
  cap : A.cap ≤ 65536
  nd : A.fr.Nodup
  lt : ∀ i ∈ A.fr, i < A.T.length
  u : ∀ t ∈ A.T, 0 ≤ t ∧ t < 18446744073709551616
def topOf : List Nat → Int
  | [] => -1
  | i :: _ => (i : Int)
def linked (U : Nat → Int) : List Nat → Prop
  | [] => True
  | i :: r => U i = topOf r ∧ linked U r

structure Mem (B : Nat) (w : World) (b : Nat) (v : Value) (nb : Nat) (xs : List Value) (cap len begun : Nat) (top : Int) : Prop where
  blk : w.heap[b]? = some (.cells #[.bool true, .int .i64 (cap : Int), .int .i64 (len : Int), .int .i64 (begun : Int), .int .i64 top, v] 43 (0, 0))
  own : w.ownsRow B 75 192 v nb xs
  ne : v.ownBlock ≠ some b
  ge : B ≤ b
structure Rep (A : Ar) (nb : Nat) (xs : List Value) (len begun : Nat) (top : Int) (U : Nat → Int) : Prop where
  beg : begun = A.T.length
  len : len + A.fr.length = begun
  top : top = topOf A.fr
  nb1 : begun ≤ nb * 64
  nb2 : nb * 64 ≤ begun + 64
  st : ∀ i, i < begun → xs[3 * i]? = some (.int .i64 (if i ∈ A.fr then 2 else 1))
  tm : ∀ i, i < begun → xs[3 * i + 1]? = some (.int .u64 (A.T.getD i 0))
  un : ∀ i, i < begun → xs[3 * i + 2]? = some (.int .i64 (U i))
  lk : linked U A.fr
  zs : ∀ i, begun ≤ i → i < nb * 64 → xs[3 * i]? = some (.int .i64 0) ∧ xs[3 * i + 1]? = some (.int .u64 0) ∧ xs[3 * i + 2]? = some (.int .i64 0)
/-- the arena at block b, which owns these blocks, is A -/
def At (B : Nat) (w : World) (b : Nat) (own : List Nat) (A : Ar) : Prop :=
  ∃ v nb xs len begun top U, Mem B w b v nb xs A.cap len begun top ∧ Rep A nb xs len begun top U ∧ A.ok ∧ own = b :: v.ownBlock.toList

theorem cell_of_blk {w : World} {b : Nat} {c : Array Value} {t : TypeId} {f : Nat × Nat} (h : w.heap[b]? = some (.cells c t f)) (i : Nat) : w.cell? ⟨b, i, none⟩ = c[i]? := by
  simp [World.cell?, h]
theorem free_of_blk {w : World} {b : Nat} {c : Array Value} {t : TypeId} (h : w.heap[b]? = some (.cells c t (0, 0))) (i : Nat) : w.frozen? ⟨b, i, none⟩ = false := by
  simp [World.frozen?, h]

theorem Mem.c {B : Nat} {w : World} {b : Nat} {v : Value} {nb : Nat} {xs : List Value} {cap len begun : Nat} {top : Int} (h : Mem B w b v nb xs cap len begun top) :
    w.cell? ⟨b, 0, none⟩ = some (.bool true) ∧ w.cell? ⟨b, 1, none⟩ = some (.int .i64 (cap : Int)) ∧ w.cell? ⟨b, 2, none⟩ = some (.int .i64 (len : Int)) ∧ w.cell? ⟨b, 3, none⟩ = some (.int .i64 (begun : Int)) ∧ w.cell? ⟨b, 4, none⟩ = some (.int .i64 top) ∧ w.cell? ⟨b, 5, none⟩ = some v := by
  simp [cell_of_blk h.blk]
theorem Mem.f {B : Nat} {w : World} {b : Nat} {v : Value} {nb : Nat} {xs : List Value} {cap len begun : Nat} {top : Int} (h : Mem B w b v nb xs cap len begun top) :
    w.frozen? ⟨b, 0, none⟩ = false ∧ w.frozen? ⟨b, 1, none⟩ = false ∧ w.frozen? ⟨b, 2, none⟩ = false ∧ w.frozen? ⟨b, 3, none⟩ = false ∧ w.frozen? ⟨b, 4, none⟩ = false ∧ w.frozen? ⟨b, 5, none⟩ = false := by
  simp [free_of_blk h.blk]

theorem up22 : Try.prog.pointee 22 = 43 := by kernel_rfl
set_option maxHeartbeats 400000 in
theorem valid_t (b : Nat) (w : World) (h : w.cell? ⟨b, 0, none⟩ = some (.bool true)) :
    Calls Try.prog 37 #[.pointer (some ⟨b, 0, none⟩)] w fun e w' => e = .returned (.bool true) ∧ w = w' := by
  have hp := up22
  go_enter Try.func37, Try.ntmps37
  go_wp2_with fail
  go_ret
  exact ⟨rfl, rfl⟩
set_option maxHeartbeats 400000 in
theorem valid_nil (w : World) :
    Calls Try.prog 37 #[.pointer none] w fun e w' => e = .returned (.bool false) ∧ w = w' := by
  have hp := up22
  go_enter Try.func37, Try.ntmps37
  go_wp2_with fail
  go_ret
  exact ⟨rfl, rfl⟩
set_option maxHeartbeats 400000 in
theorem valid_zero (b : Nat) (w : World) (h : w.cell? ⟨b, 0, none⟩ = some (.bool false)) :
    Calls Try.prog 37 #[.pointer (some ⟨b, 0, none⟩)] w fun e w' => e = .returned (.bool false) ∧ w = w' := by
  have hp := up22
  go_enter Try.func37, Try.ntmps37
  go_wp2_with fail
  go_ret
  exact ⟨rfl, rfl⟩
set_option maxHeartbeats 400000 in
theorem has_t (b : Nat) (i : Int) (n : Nat) (w : World) (h : w.cell? ⟨b, 0, none⟩ = some (.bool true)) (h3 : w.cell? ⟨b, 3, none⟩ = some (.int .i64 (n : Int))) :
    Calls Try.prog 43 #[.pointer (some ⟨b, 0, none⟩), .int .i64 i] w fun e w' => e = .returned (.bool (decide (0 ≤ i ∧ i < n))) ∧ w = w' := by
  by_cases h1 : 0 ≤ i
  · by_cases h2 : i < n
    · have d : decide (0 ≤ i ∧ i < (n : Int)) = true := by simp; omega
      rw [d]
      go_enter Try.func43, Try.ntmps43
      go_wp2_with (go_at_call 37; refine (valid_t b _ h).mono ?_; rintro e w' ⟨rfl, rfl⟩)
      go_ret
      exact ⟨rfl, rfl⟩
    · have d : decide (0 ≤ i ∧ i < (n : Int)) = false := by simp; omega
      rw [d]
      go_enter Try.func43, Try.ntmps43
      go_wp2_with (go_at_call 37; refine (valid_t b _ h).mono ?_; rintro e w' ⟨rfl, rfl⟩)
      go_ret
      exact ⟨by simp; omega, rfl⟩
  · have d : decide (0 ≤ i ∧ i < (n : Int)) = false := by simp; omega
    rw [d]
    go_enter Try.func43, Try.ntmps43
    go_wp2_with (go_at_call 37; refine (valid_t b _ h).mono ?_; rintro e w' ⟨rfl, rfl⟩)
    go_ret
    exact ⟨rfl, rfl⟩
set_option maxHeartbeats 400000 in
theorem has_f (p : Option Addr) (i : Int) (w : World) (h : p = none ∨ ∃ b, p = some ⟨b, 0, none⟩ ∧ w.cell? ⟨b, 0, none⟩ = some (.bool false)) :
    Calls Try.prog 43 #[.pointer p, .int .i64 i] w fun e w' => e = .returned (.bool false) ∧ w = w' := by
  rcases h with rfl | ⟨b, rfl, h⟩
  · go_enter Try.func43, Try.ntmps43
    go_wp2_with (go_at_call 37; refine (valid_nil _).mono ?_; rintro e w' ⟨rfl, rfl⟩)
    go_ret
    exact ⟨rfl, rfl⟩
  · go_enter Try.func43, Try.ntmps43
    go_wp2_with (go_at_call 37; refine (valid_zero b _ h).mono ?_; rintro e w' ⟨rfl, rfl⟩)
    go_ret
    exact ⟨rfl, rfl⟩
set_option maxHeartbeats 400000 in
theorem at_t (b g i nb cap : Nat) (w : World) (h : w.cell? ⟨b, 5, none⟩ = some (.slice (some ⟨g, 0, none⟩) nb cap)) (hi : i < nb * 64) (hnb : nb ≤ 2000) :
    Calls Try.prog 39 #[.pointer (some ⟨b, 0, none⟩), .int .i64 (i : Int)] w fun e w' => e = .returned (.pointer (some ⟨g, 3 * i, none⟩)) ∧ w = w' := by
  go_enter Try.func39, Try.ntmps39
  go_wp2_with fail
  go_ret
  exact ⟨by simp; omega, rfl⟩
end Go.Proofs.Ytflblojmjdlhiaa
