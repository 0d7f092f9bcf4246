/- Trees. -/
import Derived.Test.YthgeccmphnppgaaH
set_option linter.unusedVariables false
set_option linter.unusedSimpArgs false
namespace Go.Proofs.Ythgeccmphnppgaa
open Go.RowKit

/-- so many vertices, so many of them in the last level; none if there would be too many -/
def tr (c : Nat) : Nat → Option (Nat × Nat)
  | 0 => some (1, 1)
  | d + 1 => match tr c d with
    | none => none
    | some (n, t) => if 4096 < n + t * c then none else some (n + t * c, t * c)
theorem tr_ok {c : Nat} (hc : 1 ≤ c) : ∀ {d n t : Nat}, tr c d = some (n, t) → n ≤ 4096 ∧ 1 ≤ t ∧ t ≤ n ∧ d + 1 ≤ n := by
  intro d
  induction d with
  | zero => intro n t h; simp [tr] at h; omega
  | succ d ih =>
    intro n t h
    unfold tr at h
    cases hd : tr c d with
    | none => rw [hd] at h; simp at h
    | some x =>
      obtain ⟨n0, t0⟩ := x
      rw [hd] at h
      simp only at h
      split at h
      · cases h
      · obtain ⟨h1, h2, h3, h4⟩ := ih hd
        have : t0 * 1 ≤ t0 * c := Nat.mul_le_mul_left _ hc
        simp at h
        omega
theorem tr_none {c d : Nat} (h : tr c d = none) : ∀ e, tr c (d + e) = none := by
  intro e
  induction e with
  | zero => exact h
  | succ e ih => rw [← Nat.add_assoc]; unfold tr; rw [ih]
theorem tr_deep {c : Nat} (hc : 1 ≤ c) {d : Nat} (hd : 4096 ≤ d) : tr c d = none := by
  cases h : tr c d with
  | none => rfl
  | some x => obtain ⟨n, t⟩ := x; have := tr_ok hc h; omega
/-- the edges to the vertices below v -/
def tE (c : Nat) : Nat → List E3
  | 0 => []
  | v + 1 => tE c v ++ if 1 ≤ v then [(((((v - 1) / c : Nat)) : Int), (v : Int), 0)] else []
theorem tE_len (c : Nat) : ∀ v, (tE c v).length ≤ v := by
  intro v
  induction v with
  | zero => simp [tE]
  | succ v ih => simp only [tE, List.length_append]; split <;> simp <;> omega
def treeO (c : Nat) : Option (Nat × Nat) → Int × Int × List E3
  | none => (0, 2, [])
  | some (n, _) => ((n : Int), 0, tE c n)
def treeR (c d : Int) : Int × Int × List E3 := if c < 1 ∨ d < 0 then (0, 2, []) else treeO c.toNat (tr c.toNat d.toNat)
theorem treeR_len (c d : Int) : (treeR c d).2.2.length ≤ 1000000 := by
  unfold treeR
  split
  · simp
  · rename_i h
    cases h2 : tr c.toNat d.toNat with
    | none => simp [treeO]
    | some x =>
      obtain ⟨n, t⟩ := x
      have := tr_ok (by omega) h2
      have := tE_len c.toNat n
      simp only [treeO]
      omega
theorem quo_test {c n t : Nat} (ht : 1 ≤ t) (hn : n ≤ 4096) : ((4096 - n) / t < c) ↔ 4096 < n + t * c := by
  rw [Nat.div_lt_iff_lt_mul (by omega), Nat.mul_comm c t]
  omega
set_option maxRecDepth 100000 in
set_option maxHeartbeats 8000000 in
theorem tree_20 (c d : Int) (hc : I64 c) (hd : I64 d) (W : World) : Calls Try.prog 20 #[.int .i64 c, .int .i64 d] W (GRes (treeR c d) W) := by
  by_cases h1 : c < 1
  · have e : treeR c d = (0, 2, []) := by unfold treeR; rw [if_pos (.inl h1)]
    rw [e]
    clear e
    go_enter Try.func20, Try.ntmps20
    go_wp2_with fail
    go_ret3
    exact ⟨_, rfl, RdE.nil _, Below.refl _ _⟩
  by_cases h2 : d < 0
  · have e : treeR c d = (0, 2, []) := by unfold treeR; rw [if_pos (.inr h2)]
    rw [e]
    clear e
    go_enter Try.func20, Try.ntmps20
    go_wp2_with fail
    go_ret3
    exact ⟨_, rfl, RdE.nil _, Below.refl _ _⟩
  obtain ⟨a, rfl⟩ : ∃ a : Nat, c = (a : Int) := ⟨c.toNat, by omega⟩
  obtain ⟨b, rfl⟩ : ∃ b : Nat, d = (b : Int) := ⟨d.toNat, by omega⟩
  have e : treeR (a : Int) (b : Int) = treeO a (tr a b) := by unfold treeR; rw [if_neg (by omega)]; simp
  rw [e]
  have ha : 1 ≤ a := by omega
  have HA := hide ha
  have HB := hide (show (b : Int) ≤ 9223372036854775807 from hd.2)
  have HA2 := hide (show (a : Int) ≤ 9223372036854775807 from hc.2)
  have ha1 : (1 : Int) ≤ (a : Int) := by omega
  have han : a ≠ 0 := by omega
  have bd50 := build50
  clear e h1 h2 hc hd ha
  go_enter Try.func20, Try.ntmps20
  go_wp2_with fail
  go_loopw [4, 5, 7, 16] (fun x v y z wr => ∃ i n t : Nat, i ≤ b ∧ x = .int .i64 (n : Int) ∧ v = .slice none 0 0 ∧ y = .int .i64 (t : Int) ∧ z = .int .i64 (i : Int) ∧ Hid (tr a i = some (n, t)) ∧ Hid (W = wr)) (fun _ _ _ z _ => b - (intOf z).toNat)
  case atStart => exact ⟨0, 1, 1, by omega, rfl, rfl, rfl, rfl, rfl, rfl⟩
  case round =>
    obtain ⟨i, n, t, hi, rfl, rfl, rfl, rfl, hT, hw⟩ := hrel
    have hw := hw.out
    subst hw
    obtain ⟨t1, t2, t3, t4⟩ := tr_ok HA.out hT.out
    have htn : t ≠ 0 := by omega
    have ht1 : (1 : Int) ≤ (t : Int) := by omega
    by_cases hib : i < b
    · have dk : decide (i < b) = true := by simp; omega
      have dki : decide ((i : Int) < (b : Int)) = true := by simp; omega
      have wi : IntKind.i64.wrap ((i : Int) + 1) = ((i + 1 : Nat) : Int) := by have := HB.out; rw [IntKind.wrap_i64]; omega
      have w1 : IntKind.i64.wrap ((4096 : Int) - (n : Int)) = ((4096 - n : Nat) : Int) := by rw [IntKind.wrap_i64]; omega
      have qt : ((4096 - n : Nat) : Int).tdiv (t : Int) = (((4096 - n) / t : Nat) : Int) := by
        rw [Int.tdiv_eq_ediv_of_nonneg (by omega), ← Int.natCast_ediv]
      have qtest := quo_test (c := a) t2 t1
      have qb : (((4096 - n) / t : Nat) : Int) ≤ 4096 := by have := Nat.div_le_self (4096 - n) t; omega
      generalize (4096 - n) / t = Q at *
      by_cases hover : 4096 < n + t * a
      · have hlt : Q < a := qtest.2 hover
        have dq : decide (Q < a) = true := by simpa using hlt
        have HN := hide (show treeO a (tr a b) = (0, 2, []) by
          have e1 : tr a (i + 1) = none := by unfold tr; rw [hT.out]; simp [hover]
          have e2 := tr_none e1 (b - (i + 1))
          rw [show i + 1 + (b - (i + 1)) = b by omega] at e2
          rw [e2]; rfl)
        clear hT qtest hover
        go_wp2_with fail
        go_ret3
        rw [HN.out]
        exact ⟨_, rfl, RdE.nil _, Below.refl _ _⟩
      · have hlt : ¬ Q < a := fun h => hover (qtest.1 h)
        have dq : decide (Q < a) = false := by simpa using hlt
        have mb : 0 ≤ (t : Int) * (a : Int) ∧ (t : Int) * (a : Int) ≤ 4096 := by rw [← Int.natCast_mul]; omega
        have nb : (n : Int) ≤ 4096 := by omega
        have HN := hide (show tr a (i + 1) = some (n + t * a, t * a) by
          unfold tr; rw [hT.out]; simp [hover])
        clear hT qtest hover
        go_wp2_with fail
        go_roundw
        case rel => exact ⟨i + 1, n + t * a, t * a, by omega, by simp, rfl, by simp, rfl, HN, by first | exact (rfl : W = W) | exact trivial⟩
        case measure => simp [intOf]; omega
    · have : i = b := by omega
      subst this
      have dk : decide (i < i) = false := by simp
      have dki : decide ((i : Int) < (i : Int)) = false := by simp
      have HT := hide (show treeO a (tr a i) = ((n : Int), 0, tE a n) by rw [hT.out]; rfl)
      have HN := hide (show n ≤ 4096 from t1)
      have hn1 : 1 ≤ n := by omega
      clear hT t1 t2 t3 t4 ht1 htn
      go_wp2_with fail
      go_loopw [5, 8] (fun v x wr => ∃ k : Nat, 1 ≤ k ∧ k ≤ n ∧ x = .int .i64 (k : Int) ∧ Hid (wr.ownsRow W.heap.size 50 3 v (tE a k).length (ecs (tE a k))) ∧ Hid (Kp [] W wr)) (fun _ x _ => n - (intOf x).toNat)
      case atStart => exact ⟨1, by omega, hn1, rfl, World.ownsRow_nil _ _ _ _, Kp.refl _ _⟩
      case round =>
        obtain ⟨k, hk1, hk, rfl, hR, hK⟩ := hrel
        by_cases hkn : k < n
        · have dk : decide (k < n) = true := by simp; omega
          have dki : decide ((k : Int) < (n : Int)) = true := by simp; omega
          have wk : IntKind.i64.wrap ((k : Int) + 1) = ((k + 1 : Nat) : Int) := by have := HN.out; rw [IntKind.wrap_i64]; omega
          have w1 : (k : Int) - 1 = ((k - 1 : Nat) : Int) := by omega
          have w2 : IntKind.i64.wrap ((k : Int) - 1) = ((k - 1 : Nat) : Int) := by have := HN.out; rw [IntKind.wrap_i64]; omega
          have wd : ((k - 1 : Nat) : Int).tdiv (a : Int) = (((k - 1) / a : Nat) : Int) := by
            rw [Int.tdiv_eq_ediv_of_nonneg (by omega), ← Int.natCast_ediv]
          have wr0 : IntKind.i64.wrap (((k - 1) / a : Nat) : Int) = (((k - 1) / a : Nat) : Int) := wrapN (by have := Nat.div_le_self (k - 1) a; have := HN.out; omega)
          have KL := hide (show (tE a k).length ≤ 20000000 by have := tE_len a k; have := HN.out; omega)
          have TE : Hid (tE a (k + 1) = tE a k ++ [((((k - 1) / a : Nat) : Int), (k : Int), 0)]) := by show tE a (k + 1) = _; simp only [tE, if_pos hk1]
          have qb : (((k - 1) / a : Nat) : Int) ≤ 4096 := by have := Nat.div_le_self (k - 1) a; have := HN.out; omega
          have jb : ((k - 1 : Nat) : Int) ≤ 4096 := by have := HN.out; omega
          generalize (k - 1) / a = q at *
          generalize k - 1 = j at *
          go_wp2_with (at_builtin; refine wpList_push _ rfl _ _ rfl W.heap.size u5 (tE a k) ((q : Int), (k : Int), 0) rfl rfl hR.out KL.out hK.out.size ?_)
          intro v' w' hr hk2
          have NX := hide (show w'.ownsRow W.heap.size 50 3 v' (tE a (k + 1)).length (ecs (tE a (k + 1))) by rw [TE.out]; first | exact hr | simpa using hr)
          have KC := hide (hk2 W hK.out (Nat.le_refl _))
          clear hr hk2 hR hK TE KL w1
          go_wp2_with fail
          go_roundw
          case rel => exact ⟨k + 1, by omega, by omega, rfl, NX, KC⟩
          case measure => simp [intOf]; omega
        · have : k = n := by omega
          subst this
          have dk : decide (k < k) = false := by simp
          have dki : decide ((k : Int) < (k : Int)) = false := by simp
          go_wp2_with fail
          go_ret3
          rw [HT.out]
          exact ⟨_, rfl, RdE.of_row hR.out, hK.out.below (by simp) (Nat.le_refl _)⟩
end Go.Proofs.Ythgeccmphnppgaa
