/- The specification's sets in memory; what they show. -/
import Derived.Test.YtgnifimibonbjaaN
import Derived.Test.YtgnifimibonbjaaGen
set_option linter.unusedVariables false
set_option linter.unusedSimpArgs false
namespace Go.Proofs.Ytgnifimibonbjaa
open Go.RowKit

structure SM (B : Nat) (w : World) (b : Nat) (v : Value) (n : Nat) (L : Nat → Nat) : Prop where
  blk : w.heap[b]? = some (.cells #[.bool true, v] 59 (0, 0))
  row : w.ownsRow B 3 1 v n (intsF n L)
  ge : B ≤ b
  ap : ∀ k, v.ownBlock = some k → k ≠ b
/-- the specification's sets at block b: n elements with the labels L -/
def SAt (B : Nat) (w : World) (b : Nat) (own : List Nat) (n : Nat) (L : Nat → Nat) : Prop := ∃ v, SM B w b v n L ∧ n ≤ 65536 ∧ own = b :: v.ownBlock.toList
theorem SM.c {B : Nat} {w : World} {b : Nat} {v : Value} {n : Nat} {L : Nat → Nat} (h : SM B w b v n L) : w.cell? ⟨b, 0, none⟩ = some (.bool true) ∧ w.cell? ⟨b, 1, none⟩ = some v := by simp [cell_of_blk h.blk]
theorem SM.keep {B : Nat} {w w' : World} {b : Nat} {v : Value} {n : Nat} {L : Nat → Nat} {o : List Nat} (M : SM B w b v n L) (k : Kp o w w') (d : ∀ x ∈ b :: v.ownBlock.toList, x ∉ o) : SM B w' b v n L :=
  ⟨k.blk M.blk (d b (by simp)), k.row M.row (fun x hx => d x (by simp [hx])), M.ge, M.ap⟩
theorem SAt.keep {B : Nat} {w w' : World} {b n : Nat} {own o : List Nat} {L : Nat → Nat} (h : SAt B w b own n L) (k : Kp o w w') (d : ∀ x ∈ own, x ∉ o) : SAt B w' b own n L := by
  obtain ⟨v, M, hn, rfl⟩ := h
  exact ⟨v, M.keep k d, hn, rfl⟩
theorem SAt.lt {B : Nat} {w : World} {b n : Nat} {own : List Nat} {L : Nat → Nat} (h : SAt B w b own n L) : ∀ x ∈ own, B ≤ x ∧ x < w.heap.size := by
  obtain ⟨v, M, hn, rfl⟩ := h
  intro x hx
  simp at hx
  rcases hx with rfl | hx
  · exact ⟨M.ge, lt_of_blk M.blk⟩
  · exact M.row.lt x hx
theorem SAt.low {B B' : Nat} {w : World} {b n : Nat} {own : List Nat} {L : Nat → Nat} (h : SAt B w b own n L) (hb : B' ≤ B) : SAt B' w b own n L := by
  obtain ⟨v, M, hn, rfl⟩ := h
  exact ⟨v, ⟨M.blk, row_mono M.row hb, by have := M.ge; omega, M.ap⟩, hn, rfl⟩
theorem spPtr : Try.prog.pointee 29 = 59 := by kernel_rfl
theorem svalid_t (b : Nat) (w : World) (h : w.cell? ⟨b, 0, none⟩ = some (.bool true)) :
    Calls Try.prog 39 #[.pointer (some ⟨b, 0, none⟩)] w fun e w' => e = .returned (.bool true) ∧ w = w' := by
  have hp := spPtr
  go_enter Try.func39, Try.ntmps39
  go_wp2_with fail
  go_ret
  exact ⟨rfl, rfl⟩
theorem svalid_f (w : World) : Calls Try.prog 39 #[.pointer none] w fun e w' => e = .returned (.bool false) ∧ w = w' := by
  have hp := spPtr
  go_enter Try.func39, Try.ntmps39
  go_wp2_with fail
  go_ret
  exact ⟨rfl, rfl⟩
def inB (n : Nat) (x : Int) : Bool := decide (0 ≤ x ∧ x < (n : Int))
theorem inB_t {n : Nat} {x : Int} (h : inr n x) : inB n x = true := by unfold inB; simp; exact h
theorem inB_f {n : Nat} {x : Int} (h : ¬ inr n x) : inB n x = false := by unfold inB; simp; unfold inr at h; intro h0; omega
set_option maxHeartbeats 1000000 in
theorem shas_any {B : Nat} {w : World} {b n : Nat} {own : List Nat} {L : Nat → Nat} (h : SAt B w b own n L) (i : Int) :
    Calls Try.prog 40 #[.pointer (some ⟨b, 0, none⟩), .int .i64 i] w fun e w' => e = .returned (.bool (inB n i)) ∧ w = w' := by
  obtain ⟨v, M, hn, _⟩ := h
  obtain ⟨c0, c1⟩ := M.c
  obtain ⟨p, c, rfl⟩ := row_slice M.row
  have v0 := svalid_t b w c0
  clear M c0 hn
  by_cases h1 : 0 ≤ i
  · by_cases h2 : i < (n : Int)
    · rw [inB_t ⟨h1, h2⟩]
      go_enter Try.func40, Try.ntmps40
      go_wp2_with (go_at_call 39; refine v0.mono ?_; rintro e w' ⟨rfl, rfl⟩)
      go_ret
      exact ⟨rfl, rfl⟩
    · rw [inB_f (fun hh => h2 hh.2)]
      go_enter Try.func40, Try.ntmps40
      go_wp2_with (go_at_call 39; refine v0.mono ?_; rintro e w' ⟨rfl, rfl⟩)
      go_ret
      exact ⟨by simp <;> omega, rfl⟩
  · rw [inB_f (fun hh => h1 hh.1)]
    go_enter Try.func40, Try.ntmps40
    go_wp2_with (go_at_call 39; refine v0.mono ?_; rintro e w' ⟨rfl, rfl⟩)
    go_ret
    exact ⟨rfl, rfl⟩
theorem shas_f (w : World) (i : Int) : Calls Try.prog 40 #[.pointer none, .int .i64 i] w fun e w' => e = .returned (.bool false) ∧ w = w' := by
  have v0 := svalid_f w
  go_enter Try.func40, Try.ntmps40
  go_wp2_with (go_at_call 39; refine v0.mono ?_; rintro e w' ⟨rfl, rfl⟩)
  go_ret
  exact ⟨rfl, rfl⟩
/-- what Least answers -/
def leastV (n : Nat) (L : Nat → Nat) (x : Int) : Value := if inB n x = true then .tuple #[.int .i64 ((L x.toNat : Nat) : Int), .int .i64 0] else .tuple #[.int .i64 0, .int .i64 3]
theorem sat_cell {B : Nat} {w : World} {b n : Nat} {own : List Nat} {L : Nat → Nat} (h : SAt B w b own n L) {k : Nat} (hk : k < n) : ∃ g c, w.cell? ⟨b, 0, none⟩ = some (.bool true) ∧ w.cell? ⟨b, 1, none⟩ = some (.slice (some ⟨g, 0, none⟩) n c) ∧ ∀ i, i < n → w.cell? ⟨g, i, none⟩ = some (.int .i64 ((L i : Nat) : Int)) := by
  obtain ⟨v, M, hn, _⟩ := h
  obtain ⟨c0, c1⟩ := M.c
  obtain ⟨p, c, rfl⟩ := row_slice M.row
  obtain ⟨g, rfl, _, _, _⟩ := row_cell M.row hk
  refine ⟨g, c, c0, c1, fun i hi => ?_⟩
  rw [M.row.cellAt i (by omega), intsF_get _ hi]
set_option maxHeartbeats 1000000 in
theorem sleast_any {B : Nat} {w : World} {b n : Nat} {own : List Nat} {L : Nat → Nat} (h : SAt B w b own n L) (x : Int) :
    Calls Try.prog 33 #[.pointer (some ⟨b, 0, none⟩), .int .i64 x] w fun e w' => e = .returned (leastV n L x) ∧ w = w' := by
  have H0 := shas_any h x
  have V0 : Calls Try.prog 39 #[.pointer (some ⟨b, 0, none⟩)] w fun e w' => e = .returned (.bool true) ∧ w = w' := by
    obtain ⟨v, M, _⟩ := h; exact svalid_t b w M.c.1
  unfold leastV
  by_cases hx : inr n x
  · rw [inB_t hx] at H0 ⊢
    rw [if_pos rfl]
    obtain ⟨k, rfl⟩ : ∃ k : Nat, x = (k : Int) := ⟨x.toNat, by unfold inr at hx; omega⟩
    have hk : k < n := by unfold inr at hx; omega
    obtain ⟨g, c, c0, c1, cc⟩ := sat_cell h hk
    have c2 := cc k hk
    clear cc h hx
    rw [Int.toNat_natCast]
    generalize L k = l at *
    go_enter Try.func33, Try.ntmps33
    go_wp2_with (first | (go_at_call 39; refine V0.mono ?_; rintro e w' ⟨rfl, rfl⟩) | (go_at_call 40; refine H0.mono ?_; rintro e w' ⟨rfl, rfl⟩))
    go_ret2
    exact ⟨rfl, rfl⟩
  · rw [inB_f hx] at H0 ⊢
    rw [if_neg (by simp)]
    clear h hx
    go_enter Try.func33, Try.ntmps33
    go_wp2_with (first | (go_at_call 39; refine V0.mono ?_; rintro e w' ⟨rfl, rfl⟩) | (go_at_call 40; refine H0.mono ?_; rintro e w' ⟨rfl, rfl⟩))
    go_ret2
    exact ⟨rfl, rfl⟩
end Go.Proofs.Ytgnifimibonbjaa
