/- Union; what the sets show, of their labels alone. -/
import Derived.Test.YtfjmnidenoojhaaF
set_option linter.unusedVariables false
set_option linter.unusedSimpArgs false
namespace Go.Proofs.Ytfjmnidenoojhaa
open Go.RowKit

/-- the sets at block b: labels L, and H ahead of each union in force -/
def US (B : Nat) (w : World) (b : Nat) (own : List Nat) (n : Nat) (L : Nat → Nat) (H : List (Nat → Nat)) : Prop := ∃ P Z R G, UAt B w b own n P Z R L G H
theorem US.keep {B : Nat} {w w' : World} {b n : Nat} {own o : List Nat} {L : Nat → Nat} {H : List (Nat → Nat)} (h : US B w b own n L H) (k : Kp o w w') (d : ∀ x ∈ own, x ∉ o) : US B w' b own n L H := by
  obtain ⟨P, Z, R, G, u⟩ := h
  exact ⟨P, Z, R, G, u.keep k d⟩
theorem US.lt {B : Nat} {w : World} {b n : Nat} {own : List Nat} {L : Nat → Nat} {H : List (Nat → Nat)} (h : US B w b own n L H) : ∀ x ∈ own, B ≤ x ∧ x < w.heap.size := by
  obtain ⟨P, Z, R, G, u⟩ := h
  exact u.lt
theorem US.mono {B B' : Nat} {w : World} {b n : Nat} {own : List Nat} {L : Nat → Nat} {H : List (Nat → Nat)} (h : US B w b own n L H) (hb : B' ≤ B) : US B' w b own n L H := by
  obtain ⟨P, Z, R, G, vP, vS, vG, M, u, hn, ho⟩ := h
  exact ⟨P, Z, R, G, vP, vS, vG, ⟨M.blk, row_mono M.P hb, row_mono M.S hb, row_mono M.G hb, Nat.le_trans hb M.ge, M.ap⟩, u, hn, ho⟩
def uL (L : Nat → Nat) (x y : Nat) : Nat → Nat := if L x = L y then L else jn L (L x) (L y)
def uH (L : Nat → Nat) (H : List (Nat → Nat)) (x y : Nat) : List (Nat → Nat) := if L x = L y then H else H ++ [L]
theorem jn_sym (L : Nat → Nat) (x y : Nat) : jn L x y = jn L y x := by unfold jn; rw [Nat.max_comm, Nat.min_comm]
section
variable {B : Nat} {w : World} {b n : Nat} {own : List Nat} {L : Nat → Nat} {H : List (Nat → Nat)} (h : US B w b own n L H)
include h
theorem unite_u (x y : Nat) (hx : x < n) (hy : y < n) (hB : B ≤ w.heap.size) : Calls Try.prog 38 #[.pointer (some ⟨b, 0, none⟩), .int .i64 (x : Int), .int .i64 (y : Int)] w fun e w' =>
    e = .returned (.bool (!decide (L x = L y))) ∧ ∃ own', US B w' b own' n (uL L x y) (uH L H x y) ∧ Kp own w w' ∧ ∀ q ∈ own', q ∈ own ∨ w.heap.size ≤ q := by
  obtain ⟨P, Z, R, G, vP, vS, vG, M, u, hn, ho⟩ := h
  have i := u.inv
  have lr := i.lr x y hx hy
  by_cases e : L x = L y
  · refine (unite_same M i x y hx hy (lr.1 e)).mono ?_
    rintro e1 w1 ⟨rfl, rfl⟩
    refine ⟨by simp [e], own, ?_, Kp.refl _ _, fun q hq => .inl hq⟩
    unfold uL uH
    rw [if_pos e, if_pos e]
    exact ⟨P, Z, R, G, vP, vS, vG, M, u, hn, ho⟩
  · refine (unite_join M i x y hx hy (fun q => e (lr.2 q)) hn own ho hB).mono ?_
    rintro e1 w1 ⟨rfl, a, c, v', hac, hz, M', k, hv⟩
    refine ⟨by simp [e], b :: (vP.ownBlock.toList ++ (vS.ownBlock.toList ++ v'.ownBlock.toList)), ?_, k, ?_⟩
    · unfold uL uH
      rw [if_neg e, if_neg e]
      have lx := i.rl x hx
      have ly := i.rl y hy
      have rx := i.rr x hx
      have ry := i.rr y hy
      have e1 : L (R x) = L x := (i.lr (R x) x lx hx).2 rx
      have e2 : L (R y) = L y := (i.lr (R y) y ly hy).2 ry
      have hne : R x ≠ R y := fun q => e (lr.2 q)
      rcases hac with ⟨rfl, rfl⟩ | ⟨rfl, rfl⟩
      · have := UF.join u lx ly rx ry hne hz
        rw [e1, e2] at this
        exact ⟨_, _, _, _, vP, vS, v', M', this, hn, rfl⟩
      · have := UF.join u ly lx ry rx (Ne.symm hne) hz
        rw [e1, e2, jn_sym] at this
        exact ⟨_, _, _, _, vP, vS, v', M', this, hn, rfl⟩
    · intro q hq
      simp at hq
      rcases hq with rfl | hq | hq | hq
      · left; rw [ho]; simp
      · left; rw [ho]; simp [hq]
      · left; rw [ho]; simp [hq]
      · rcases hv q hq with h1 | h1
        · left; rw [ho]; simp [h1]
        · exact .inr h1
theorem valid_u : Calls Try.prog 36 #[.pointer (some ⟨b, 0, none⟩)] w fun e w' => e = .returned (.bool true) ∧ w = w' := by
  obtain ⟨P, Z, R, G, vP, vS, vG, M, u, hn, ho⟩ := h
  exact valid_t b w M.c.1
theorem has_u (x : Int) : Calls Try.prog 37 #[.pointer (some ⟨b, 0, none⟩), .int .i64 x] w fun e w' => e = .returned (.bool (decide (0 ≤ x ∧ x < (n : Int)))) ∧ w = w' := by
  obtain ⟨P, Z, R, G, vP, vS, vG, M, u, hn, ho⟩ := h
  exact has_m M x
theorem mark_u : Calls Try.prog 24 #[.pointer (some ⟨b, 0, none⟩)] w fun e w' => e = .returned (.int .i64 ((H.length : Nat) : Int)) ∧ w = w' := by
  obtain ⟨P, Z, R, G, vP, vS, vG, M, u, hn, ho⟩ := h
  rw [u.hlen]
  exact mark_m M
theorem count_u : Calls Try.prog 26 #[.pointer (some ⟨b, 0, none⟩)] w fun e w' => e = .returned (.int .i64 ((roots L n : Nat) : Int)) ∧ Below w.heap.size w w' := by
  obtain ⟨P, Z, R, G, vP, vS, vG, M, u, hn, ho⟩ := h
  exact count_m M u.inv hn
theorem same_u (x y : Nat) (hx : x < n) (hy : y < n) : Calls Try.prog 29 #[.pointer (some ⟨b, 0, none⟩), .int .i64 (x : Int), .int .i64 (y : Int)] w fun e w' => e = .returned (.bool (decide (L x = L y))) ∧ w = w' := by
  obtain ⟨P, Z, R, G, vP, vS, vG, M, u, hn, ho⟩ := h
  exact same_m M u.inv x y hx hy
theorem size_u (x : Nat) (hx : x < n) : Calls Try.prog 30 #[.pointer (some ⟨b, 0, none⟩), .int .i64 (x : Int)] w fun e w' => e = .returned (.int .i64 ((cnt L (L x) n : Nat) : Int)) ∧ Below w.heap.size w w' := by
  obtain ⟨P, Z, R, G, vP, vS, vG, M, u, hn, ho⟩ := h
  exact size_m M u.inv x hx
set_option maxHeartbeats 4000000 in
theorem union_u (x y : Nat) (hx : x < n) (hy : y < n) (hB : B ≤ w.heap.size) : Calls Try.prog 15 #[.pointer (some ⟨b, 0, none⟩), .int .i64 (x : Int), .int .i64 (y : Int)] w fun e w' =>
    e = .returned (.tuple #[.bool (!decide (L x = L y)), .int .i64 0]) ∧ ∃ own', US B w' b own' n (uL L x y) (uH L H x y) ∧ Kp own w w' ∧ ∀ q ∈ own', q ∈ own ∨ w.heap.size ≤ q := by
  have v0 := valid_u h
  have h1 := has_u h (x : Int)
  have h2 := has_u h (y : Int)
  rw [dec_in hx] at h1
  rw [dec_in hy] at h2
  have U := hide (unite_u h x y hx hy hB)
  clear h hx hy hB
  go_enter Try.func15, Try.ntmps15
  go_wp2_with fail
  refine v0.mono ?_
  rintro e w' ⟨rfl, rfl⟩
  go_wp2_with fail
  refine h1.mono ?_
  rintro e w' ⟨rfl, rfl⟩
  go_wp2_with fail
  refine h2.mono ?_
  rintro e w' ⟨rfl, rfl⟩
  go_wp2_with fail
  refine U.out.mono ?_
  rintro e w1 ⟨rfl, own', g1, k1, o1⟩
  have G1 := hide (And.intro g1 (And.intro k1 o1))
  clear g1 k1 o1
  go_wp2_with fail
  go_ret2
  exact ⟨rfl, own', G1.out.1, G1.out.2.1, G1.out.2.2⟩
set_option maxHeartbeats 4000000 in
theorem union_o (x y : Int) (ho : ¬ ((0 ≤ x ∧ x < (n : Int)) ∧ (0 ≤ y ∧ y < (n : Int)))) : Calls Try.prog 15 #[.pointer (some ⟨b, 0, none⟩), .int .i64 x, .int .i64 y] w fun e w' =>
    e = .returned (.tuple #[.bool false, .int .i64 3]) ∧ w = w' := by
  have v0 := valid_u h
  have hx := has_u h x
  have hy := has_u h y
  clear h
  by_cases h1 : 0 ≤ x ∧ x < (n : Int)
  · have d1 : decide (0 ≤ x ∧ x < (n : Int)) = true := by simpa using h1
    have d2 : decide (0 ≤ y ∧ y < (n : Int)) = false := by simp; omega
    rw [d1] at hx
    rw [d2] at hy
    clear ho h1 d1 d2
    go_enter Try.func15, Try.ntmps15
    go_wp2_with fail
    refine v0.mono ?_
    rintro e w' ⟨rfl, rfl⟩
    go_wp2_with fail
    refine hx.mono ?_
    rintro e w' ⟨rfl, rfl⟩
    go_wp2_with fail
    refine hy.mono ?_
    rintro e w' ⟨rfl, rfl⟩
    go_wp2_with fail
    go_ret2
    exact ⟨rfl, rfl⟩
  · have d1 : decide (0 ≤ x ∧ x < (n : Int)) = false := by simp; omega
    rw [d1] at hx
    clear ho h1 d1 hy
    go_enter Try.func15, Try.ntmps15
    go_wp2_with (first | (go_at_call 36; refine v0.mono ?_; rintro e w' ⟨rfl, rfl⟩) | (go_at_call 37; refine hx.mono ?_; rintro e w' ⟨rfl, rfl⟩))
    go_ret2
    exact ⟨rfl, rfl⟩
end
end Go.Proofs.Ytfjmnidenoojhaa
