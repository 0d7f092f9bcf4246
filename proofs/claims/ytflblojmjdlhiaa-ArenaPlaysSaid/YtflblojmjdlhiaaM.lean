/- An arena of which the first slots are in use. -/
import Derived.Test.YtflblojmjdlhiaaW
set_option linter.unusedVariables false
set_option linter.unusedSimpArgs false
namespace Go.Proofs.Ytflblojmjdlhiaa
open Go.RowKit

theorem rep_alloc (n k : Nat) (h : k < n) : allocV ⟨n, List.replicate k 1, []⟩ = .tuple #[.int .i64 (k : Int), .int .i64 0] ∧ (Ar.mk n (List.replicate k 1) []).alloc' = ⟨n, List.replicate (k + 1) 1, []⟩ := by
  have e : (Ar.mk n (List.replicate k 1) []).next = some k := by unfold Ar.next; simp [h]
  constructor
  · unfold allocV; rw [e]
  · unfold Ar.alloc'; rw [e]; simp [Ar.alloc, List.replicate_succ']
theorem rep_full (n : Nat) : allocV ⟨n, List.replicate n 1, []⟩ = .tuple #[.int .i64 0, .int .i64 4] ∧ (Ar.mk n (List.replicate n 1) []).alloc' = ⟨n, List.replicate n 1, []⟩ ∧ nextV ⟨n, List.replicate n 1, []⟩ = .tuple #[.int .i64 0, .bool false] := by
  have e : (Ar.mk n (List.replicate n 1) []).next = none := by unfold Ar.next; simp
  refine ⟨?_, ?_, ?_⟩
  · unfold allocV; rw [e]
  · unfold Ar.alloc'; rw [e]
  · unfold nextV; rw [e]

set_option maxRecDepth 100000 in
set_option maxHeartbeats 4000000 in
theorem made_t (s u : Nat) (hs : s < 65536) (hu : u < 65536) (w : World) :
    Calls Try.prog 28 #[.int .u16 (s : Int), .int .u16 (u : Int)] w fun e w' => ∃ b, e = .returned (.tuple #[.pointer (some ⟨b, 0, none⟩), .int .i64 ((1 + s % 300 : Nat) : Int), .int .i64 ((u % (1 + s % 300 + 1) : Nat) : Int)]) ∧ Has w.heap.size w w' b ⟨1 + s % 300, List.replicate (u % (1 + s % 300 + 1)) 1, []⟩ [] := by
  have hp := up22
  have w1 : IntKind.i64.wrap (s : Int) = (s : Int) := by rw [IntKind.wrap_i64]; omega
  have w2 : IntKind.i64.wrap (u : Int) = (u : Int) := by rw [IntKind.wrap_i64]; omega
  obtain ⟨n, hn⟩ : ∃ n, n = 1 + s % 300 := ⟨_, rfl⟩
  have e1 : (1 : Int) + (s : Int) % 300 = (n : Int) := by omega
  have w3 : IntKind.i64.wrap (n : Int) = (n : Int) := by rw [IntKind.wrap_i64]; omega
  have w4 : IntKind.i64.wrap ((n : Int) + 1) = (n : Int) + 1 := by rw [IntKind.wrap_i64]; omega
  obtain ⟨m, hm⟩ : ∃ m, m = u % (n + 1) := ⟨_, rfl⟩
  have e2 : (u : Int) % ((n : Int) + 1) = (m : Int) := by rw [hm]; norm_cast
  rw [← hn, ← hm]
  have hmn : m ≤ n := by have := Nat.mod_lt u (show 0 < n + 1 by omega); omega
  have HN := hide (And.intro (show 0 < n ∧ n ≤ 300 by omega) hmn)
  clear hn hm hmn
  go_enter Try.func28, Try.ntmps28
  go_wp2_with fail
  simp only [e2]
  refine (h_new (O := []) n (by have := HN.out; omega) (Nat.le_refl _) (Below.refl _ _) (by simp)).mono ?_
  rintro e w1 ⟨b, rfl, h1, _⟩
  have H1 := hide h1
  clear h1 e1 e2 w3 w4 hs hu
  go_wp2_with fail
  go_loopw [11] (fun i wr => ∃ k : Nat, i = .int .i64 (k : Int) ∧ Hid (k ≤ m) ∧ Hid (Has w.heap.size w wr b ⟨n, List.replicate k 1, []⟩ [])) (fun i _ => m - (intOf i).toNat)
  case atStart => exact ⟨0, rfl, Nat.zero_le _, H1⟩
  case round =>
    obtain ⟨k, rfl, hk, hH⟩ := hrel
    by_cases hlt : k < m
    · have dk : decide (k < m) = true := by simp; omega
      have hlt2 := hide hlt
      have ww : IntKind.i64.wrap ((k : Int) + 1) = (k : Int) + 1 := by have := HN.out; rw [IntKind.wrap_i64]; omega
      have kn : k < n := by have := HN.out; omega
      obtain ⟨ea, eb⟩ := rep_alloc n k kn
      clear hlt kn
      have EA := hide ea
      have EB := hide eb
      clear ea eb
      go_wp2_with (go_at_call 16; refine (h_alloc hH.out (by simp) _ _ EA.out EB.out).mono ?_; rintro e w2 ⟨rfl, h2, _⟩; have H2 := hide h2; clear h2)
      go_roundw
      case rel => exact ⟨k + 1, by go_num, by have := hlt2.out; show k + 1 ≤ m; omega, H2⟩
      case measure => have := hlt2.out; simp [intOf]; omega
    · have dk : decide (k < m) = false := by simp; omega
      have he : k = m := by have := hk.out; omega
      go_wp2_with fail
      go_ret3
      refine ⟨b, rfl, ?_⟩
      rw [← he]
      exact hH.out
end Go.Proofs.Ytflblojmjdlhiaa
