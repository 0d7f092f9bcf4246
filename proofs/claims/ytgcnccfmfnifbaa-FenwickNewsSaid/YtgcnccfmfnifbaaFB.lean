/- parts, and Prefix. -/
import Derived.RangeFuncNested
import Derived.RangeFuncBound
import Derived.RangeFuncCalls
import Derived.RangeFuncLeaves
import Derived.Shelf.Abstract
import Derived.Shelf.RegionOpen
import Derived.WalkKit
import Derived.OwnWalkIn
import Derived.TacticsInMore
import Derived.LoopNIn
import Derived.LoopIn
import Derived.Test.YtgcnccfmfnifbaaFA
set_option linter.unusedVariables false
set_option linter.unusedSimpArgs false
namespace Go.Proofs.Ytgcnccfmfnifbaa
open Go.RowKit Go.Shelf

attribute [local go_sem] Oper.semAt_some

/-- the numbers of sums -/
abbrev Sb (n : Nat) := { x : Nat // 1 ≤ x ∧ x ≤ n }
def encB {n : Nat} (x : Sb n) : Array Value := #[.int .i64 (x.1 : Int)]
def pl (n : Nat) : Nat → Nat → List (Sb n)
  | 0, _ => []
  | f + 1, k => if h : 1 ≤ k ∧ k ≤ n then ⟨k, h⟩ :: pl n f (k - low k) else []
theorem pl_at {n f k : Nat} (h : 1 ≤ k ∧ k ≤ n) : pl n (f + 1) k = ⟨k, h⟩ :: pl n f (k - low k) := by simp [pl, h]
theorem pl_zero (n f : Nat) : pl n f 0 = [] := by cases f <;> simp [pl]
def lsum {n : Nat} (T : Nat → Int) (l : List (Sb n)) : Int := (l.map fun x => T x.1).foldl (· + ·) 0
theorem foldl_add (l : List Int) : ∀ a : Int, l.foldl (· + ·) a = a + l.foldl (· + ·) 0 := by
  induction l with
  | nil => intro a; simp
  | cons x r ih => intro a; simp only [List.foldl_cons]; rw [ih (a + x), ih (0 + x)]; omega
theorem lsum_cons {n : Nat} (T : Nat → Int) (x : Sb n) (l : List (Sb n)) : lsum T (x :: l) = T x.1 + lsum T l := by
  unfold lsum
  rw [List.map_cons, List.foldl_cons, foldl_add]; omega
theorem lsum_snoc {n : Nat} (T : Nat → Int) (l : List (Sb n)) (x : Sb n) : lsum T (l ++ [x]) = lsum T l + T x.1 := by
  unfold lsum
  rw [List.map_append, List.foldl_append]; rfl
theorem lsum_pl {n : Nat} (C : Nat → Int) : ∀ (f k : Nat), k ≤ f → k ≤ n → lsum (tr C) (pl n f k) = sumS C k := by
  intro f
  induction f with
  | zero => intro k hk _; have : k = 0 := by omega
            subst this; rfl
  | succ f ih =>
    intro k hk hn
    by_cases h0 : k = 0
    · subst h0; rw [pl_zero]; rfl
    · have hl := low_bd k (by omega)
      rw [pl_at ⟨by omega, hn⟩, lsum_cons, ih _ (by omega) (by omega)]
      show sumS C k - sumS C (k - low k) + sumS C (k - low k) = sumS C k
      omega
theorem pl_len (n : Nat) : ∀ (f k : Nat), (pl n f k).length ≤ k := by
  intro f
  induction f with
  | zero => intro k; exact Nat.zero_le _
  | succ f ih =>
    intro k
    by_cases h : 1 ≤ k ∧ k ≤ n
    · rw [pl_at h]
      have := ih (k - low k)
      have := low_bd k (by omega)
      simp; omega
    · simp [pl, h]
def cellN (w : World) (a : Addr) : Nat := match w.cell? a with | some (.int _ z) => z.toNat | _ => 0
theorem cellN_at {w : World} {a : Addr} {k : Nat} (h : w.cell? a = some (.int .i64 (k : Int))) : cellN w a = k := by unfold cellN; rw [h]; simp
set_option maxRecDepth 100000 in
set_option maxHeartbeats 4000000 in
/-- the function that parts makes -/
theorem parts1_in {n0 : Nat} (F : Fence) (m : Nat) (h42 : F.fn 42) (hro : F.round = none) (hm : 1 ≤ m) (l bk n k0 : Nat) (hn : n ≤ 65536) (hk : k0 ≤ n) (Kq : World → World → Prop)
    (hKr : ∀ W, Kq W W) (hKt : ∀ {A B C : World}, Kq A B → Kq B C → Kq A C)
    (hKc : ∀ {W W'} (v : Value), Kq W W' → W.cell? ⟨bk, 0, none⟩ = some v → W'.cell? ⟨bk, 0, none⟩ = some v ∧ W'.frozen? ⟨bk, 0, none⟩ = W.frozen? ⟨bk, 0, none⟩)
    (J Jx : List (Sb n) → World → Prop) (hJs : ∀ pre W v, J pre W → J pre (W.setCell ⟨bk, 0, none⟩ v))
    (hY : ∀ pre x W, J pre W → pre.length < n + 1 → YieldAt F (m - 1) Try.prog l (encB x) W fun e W' =>
      (e = .returned (.bool true) ∧ J (pre ++ [x]) W' ∧ Kq W W') ∨ (e = .returned (.bool false) ∧ Jx (pre ++ [x]) W'))
    (W : World) {z0 : Int} (hz0 : z0 = (k0 : Int) ∨ (z0 ≤ 0 ∧ k0 = 0)) (hb : W.cell? ⟨bk, 0, none⟩ = some (.int .i64 z0)) (hf : W.frozen? ⟨bk, 0, none⟩ = false) (h0 : J [] W) :
    CallsIn F m Try.prog 42 #[.func (.yield l) #[] #[], .pointer (some ⟨bk, 0, none⟩)] W fun e W' => (∃ v, e = .returned v) ∧
      ((∃ ys, ys = pl n k0 k0 ∧ J ys W') ∨ (∃ pre, True ∧ Jx pre W')) := by
  refine callsIn_of_wp Try.func42 rfl h42 ?_ hro
  simp only [Try.ntmps42, List.size_toArray, List.length_cons, List.length_nil, Nat.reduceAdd, Nat.reduceSub, Array.replicate_succ, Array.replicate_zero, List.push_toArray, List.append_toArray, List.nil_append, List.cons_append]
  gi_wp2
  gi_loopw [3] (fun _ wr => ∃ (k f : Nat) (pre : List (Sb n)) (z : Int), k ≤ f ∧ k ≤ n ∧ Hid (pre ++ pl n f k = pl n k0 k0) ∧ (z = (k : Int) ∨ (z ≤ 0 ∧ k = 0)) ∧ wr.cell? ⟨bk, 0, none⟩ = some (.int .i64 z) ∧ wr.frozen? ⟨bk, 0, none⟩ = false ∧ J pre wr) (fun _ wr => cellN wr ⟨bk, 0, none⟩)
  case atStart => exact ⟨k0, k0, [], z0, Nat.le_refl _, hk, rfl, hz0, hb, hf, h0⟩
  case round =>
    obtain ⟨k, f, pre, z, hkf, hkn, hall, hzk, hc, hfz, hJ⟩ := hrel
    by_cases hz : k = 0
    · subst hz
      have dz : decide ((0 : Int) < z) = false := by simp; omega
      clear hzk
      have HP := hide (show pre = pl n k0 k0 by have := hall.out; rw [pl_zero, List.append_nil] at this; exact this)
      gi_wp2
      go_end0
      exact ⟨⟨_, rfl⟩, .inl ⟨pre, HP.out, hJ⟩⟩
    · have hzz : z = (k : Int) := by omega
      subst hzz
      clear hzk
      obtain ⟨f, rfl⟩ : ∃ g, f = g + 1 := ⟨f - 1, by omega⟩
      have hk1 : 1 ≤ k ∧ k ≤ n := ⟨by omega, hkn⟩
      have HA := hide (show (pre ++ [⟨k, hk1⟩]) ++ pl n f (k - low k) = pl n k0 k0 by have := hall.out; rw [pl_at hk1] at this; simpa using this)
      have hlen : pre.length < n + 1 := by
        have := congrArg List.length hall.out
        have := pl_len n k0 k0
        rw [List.length_append] at *
        omega
      obtain ⟨fn, tmps, assign, body, hy, hR⟩ := hY pre ⟨k, hk1⟩ wr hJ hlen
      unfold encB at hy
      have d0 : decide ((0 : Int) < (k : Int)) = true := by simp; omega
      have d0' : decide (0 < k) = true := by simp; omega
      have hand := bits_and (k := k) (by omega) (by omega)
      have b1 : 1 ≤ k := by omega
      have b2 : k ≤ 65536 := by omega
      have HL := hide (low_bd k (by omega))
      have CM := hide (cellN_at hc)
      have HKF := hide (And.intro hkf (And.intro hkn hk1))
      clear hall hlen hz hkf hkn
      gi_wp2
      refine hR.mono ?_
      rintro e W3 (⟨rfl, hJ3, hk3⟩ | ⟨rfl, hJx3⟩)
      · obtain ⟨c3, f3⟩ := hKc _ hk3 hc
        rw [hfz] at f3
        gi_wp2
        go_roundw
        case rel => exact ⟨k - low k, f, pre ++ [⟨k, hk1⟩], _, by have := HL.out; have := HKF.out; omega, by have := HKF.out; omega, HA, .inl rfl, by simp [go_sem, c3], by simp [go_sem, f3], hJs _ _ _ hJ3⟩
        case measure => rw [CM.out, cellN_at (k := k - low k) (by simp [go_sem, c3])]; have := HL.out; omega
      · gi_wp2
        refine bodyPost_ret (results_none rfl _ _ _) rfl ?_
        exact ⟨⟨_, rfl⟩, .inr ⟨_, trivial, hJx3⟩⟩
end Go.Proofs.Ytgcnccfmfnifbaa
