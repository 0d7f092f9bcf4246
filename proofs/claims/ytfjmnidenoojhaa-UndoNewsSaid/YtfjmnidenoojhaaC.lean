/- Size, Same, Count, Mark. -/
import Derived.Test.YtfjmnidenoojhaaA
import Derived.WalkMore
import Derived.StillTailTactics
set_option linter.unusedVariables false
set_option linter.unusedSimpArgs false
namespace Go.Proofs.Ytfjmnidenoojhaa
open Go.RowKit

theorem dec_in {n : Nat} {x : Nat} (hx : x < n) : decide (0 ≤ (x : Int) ∧ (x : Int) < (n : Int)) = true := by simp; omega
theorem cnt_alike {R L : Nat → Nat} {n r l : Nat} (h : ∀ j, j < n → (L j = l ↔ R j = r)) : ∀ m, m ≤ n → cnt R r m = cnt L l m := by
  intro m
  induction m with
  | zero => intro _; rfl
  | succ m ih =>
    intro hm
    simp only [cnt, ih (by omega)]
    have := h m (by omega)
    by_cases e : R m = r
    · rw [if_pos e, if_pos (this.2 e)]
    · rw [if_neg e, if_neg (fun q => e (this.1 q))]
theorem UI.size {n : Nat} {P Z R L : Nat → Nat} {G : List Nat} (u : UI n P Z R L G) {x : Nat} (hx : x < n) : Z (R x) = cnt L (L x) n := by
  rw [u.zc (R x) (u.rl x hx) (u.rr x hx)]
  exact cnt_alike (n := n) (fun j hj => u.lr j x hj hx) n (Nat.le_refl _)
section
variable {B : Nat} {w : World} {b n : Nat} {P Z R L : Nat → Nat} {G : List Nat} {vP vS vG : Value} (M : UM B w b vP vS vG n P Z G) (u : UI n P Z R L G)
include M
theorem mark_m : Calls Try.prog 24 #[.pointer (some ⟨b, 0, none⟩)] w fun e w' => e = .returned (.int .i64 ((G.length : Nat) : Int)) ∧ w = w' := by
  obtain ⟨c0, c1, c2, c3⟩ := M.c
  obtain ⟨p, c, rfl⟩ := row_slice M.G
  have v0 := valid_t b w c0
  have hp := upPtr
  clear M c0 c1 c2
  go_enter Try.func24, Try.ntmps24
  go_wp2_with (go_at_call 36; refine v0.mono ?_; rintro e w' ⟨rfl, rfl⟩)
  go_ret
  exact ⟨rfl, rfl⟩
include u
set_option maxHeartbeats 1000000 in
theorem count_m (hn : n ≤ 65536) : Calls Try.prog 26 #[.pointer (some ⟨b, 0, none⟩)] w fun e w' => e = .returned (.int .i64 ((roots L n : Nat) : Int)) ∧ Below w.heap.size w w' := by
  obtain ⟨c0, c1, c2, c3⟩ := M.c
  obtain ⟨p, c, rfl⟩ := row_slice M.G
  obtain ⟨p1, c4, rfl⟩ := row_slice M.P
  have v0 := valid_t b w c0
  have hp := upPtr
  have hl := u.len
  have es : (n : Int) - ((G.length : Nat) : Int) = ((roots L n : Nat) : Int) := by omega
  have ws : IntKind.i64.wrap ((roots L n : Nat) : Int) = ((roots L n : Nat) : Int) := by rw [IntKind.wrap_i64]; omega
  clear M c0 c2 u hl hn
  generalize roots L n = r at *
  generalize G.length = g at *
  go_enter Try.func26, Try.ntmps26
  go_wp2_with (go_at_call 36; refine v0.mono ?_; rintro e w' ⟨rfl, rfl⟩)
  go_quiet (fail)
  go_wp2_with fail
  go_ret
  exact ⟨rfl, (Kp.drewN [] _ _).below (by simp) (Nat.le_refl _)⟩
set_option maxHeartbeats 4000000 in
theorem same_m (x y : Nat) (hx : x < n) (hy : y < n) : Calls Try.prog 29 #[.pointer (some ⟨b, 0, none⟩), .int .i64 (x : Int), .int .i64 (y : Int)] w fun e w' => e = .returned (.bool (decide (L x = L y))) ∧ w = w' := by
  have h1 := has_m M (x : Int)
  have h2 := has_m M (y : Int)
  rw [dec_in hx] at h1
  rw [dec_in hy] at h2
  have R1 := hide (root_m M u x hx)
  have R2 := hide (root_m M u y hy)
  have e : decide (L x = L y) = decide (R x = R y) := by
    have := u.lr x y hx hy
    simp [this]
  rw [e]
  clear M u hx hy e
  generalize R x = rx at *
  generalize R y = ry at *
  go_enter Try.func29, Try.ntmps29
  go_wp2_with fail
  refine h1.mono ?_
  rintro e w' ⟨rfl, rfl⟩
  go_wp2_with fail
  refine h2.mono ?_
  rintro e w' ⟨rfl, rfl⟩
  go_wp2_with fail
  refine R1.out.mono ?_
  rintro e w' ⟨rfl, rfl⟩
  go_wp2_with fail
  refine R2.out.mono ?_
  rintro e w' ⟨rfl, rfl⟩
  go_wp2_with fail
  go_ret
  exact ⟨by congr 2; by_cases q : rx = ry <;> simp [q] <;> omega, rfl⟩
end
end Go.Proofs.Ytfjmnidenoojhaa
