/- The document's sets in memory, and what reads them. -/
import Derived.Test.YtfjmnidenoojhaaRr
set_option linter.unusedVariables false
set_option linter.unusedSimpArgs false
namespace Go.Proofs.Ytfjmnidenoojhaa
open Go.RowKit

/-- whether two numbers are in one set; the size of a number's set -/
def sameV (n : Nat) (L : Nat → Nat) (a b : Int) : Bool := decide (0 ≤ a ∧ a < (n : Int)) && (decide (0 ≤ b ∧ b < (n : Int)) && decide (L a.toNat = L b.toNat))
def sizeV (n : Nat) (L : Nat → Nat) (a : Int) : Nat := if 0 ≤ a ∧ a < (n : Int) then cnt L (L a.toNat) n else 0
theorem field40 (a b c : Value) (w : World) : (Instr.field 40 (.agg #[a, b, c]) 1).run Try.prog w = .ok b w := by kernel_rfl
structure SS (B : Nat) (w : World) (b : Nat) (vL vP : Value) (n : Nat) (L : Nat → Nat) (m : Nat) : Prop where
  blk : w.heap[b]? = some (.cells #[.bool true, vL, vP] 65 (0, 0))
  L : w.ownsRow B 3 1 vL n (intsF n L)
  P : ∃ p c, vP = .slice p m c
  ge : B ≤ b
  ne : ∀ k, vL.ownBlock = some k → k ≠ b
theorem SS.keep {B : Nat} {w w' : World} {b : Nat} {vL vP : Value} {n : Nat} {L : Nat → Nat} {m : Nat} {o : List Nat} (h : SS B w b vL vP n L m) (k : Kp o w w') (d : ∀ x ∈ b :: vL.ownBlock.toList, x ∉ o) : SS B w' b vL vP n L m :=
  ⟨k.blk h.blk (d b (by simp)), k.row h.L (fun x hx => d x (by simp [hx])), h.P, h.ge, h.ne⟩
theorem SS.c {B : Nat} {w : World} {b : Nat} {vL vP : Value} {n : Nat} {L : Nat → Nat} {m : Nat} (h : SS B w b vL vP n L m) : w.cell? ⟨b, 0, none⟩ = some (.bool true) ∧ w.cell? ⟨b, 1, none⟩ = some vL ∧ w.cell? ⟨b, 2, none⟩ = some vP := by
  simp [cell_of_blk h.blk]
theorem upPtrS : Try.prog.pointee 27 = 65 := by kernel_rfl
theorem rvalid_s {w : World} {b : Nat} (h : w.cell? ⟨b, 0, none⟩ = some (.bool true)) : Calls Try.prog 39 #[.pointer (some ⟨b, 0, none⟩)] w fun e w' => e = .returned (.bool true) ∧ w = w' := by
  have hp := upPtrS
  go_enter Try.func39, Try.ntmps39
  go_wp2_with fail
  go_ret
  exact ⟨rfl, rfl⟩
theorem rvalid_n (w : World) : Calls Try.prog 39 #[.pointer none] w fun e w' => e = .returned (.bool false) ∧ w = w' := by
  have hp := upPtrS
  go_enter Try.func39, Try.ntmps39
  go_wp2_with fail
  go_ret
  exact ⟨rfl, rfl⟩
theorem rhas_n (w : World) (i : Int) : Calls Try.prog 40 #[.pointer none, .int .i64 i] w fun e w' => e = .returned (.bool false) ∧ w = w' := by
  have v0 := rvalid_n w
  go_enter Try.func40, Try.ntmps40
  go_wp2_with (go_at_call 39; refine v0.mono ?_; rintro e w' ⟨rfl, rfl⟩)
  go_ret
  exact ⟨rfl, rfl⟩
section
variable {B : Nat} {w : World} {b : Nat} {vL vP : Value} {n : Nat} {L : Nat → Nat} {m : Nat} (h : SS B w b vL vP n L m)
include h
theorem rhas_s (i : Int) : Calls Try.prog 40 #[.pointer (some ⟨b, 0, none⟩), .int .i64 i] w fun e w' => e = .returned (.bool (decide (0 ≤ i ∧ i < (n : Int)))) ∧ w = w' := by
  obtain ⟨c0, c1, c2⟩ := h.c
  obtain ⟨p, c, rfl⟩ := row_slice h.L
  have v0 := rvalid_s c0
  have hp := upPtrS
  clear h c0 c2
  by_cases h1 : 0 ≤ i
  · by_cases h2 : i < (n : Int)
    · have d : decide (0 ≤ i ∧ i < (n : Int)) = true := by simp; omega
      rw [d]
      go_enter Try.func40, Try.ntmps40
      go_wp2_with (go_at_call 39; refine v0.mono ?_; rintro e w' ⟨rfl, rfl⟩)
      go_ret
      exact ⟨rfl, rfl⟩
    · have d : decide (0 ≤ i ∧ i < (n : Int)) = false := by simp; omega
      rw [d]
      go_enter Try.func40, Try.ntmps40
      go_wp2_with (go_at_call 39; refine v0.mono ?_; rintro e w' ⟨rfl, rfl⟩)
      go_ret
      exact ⟨by simp; omega, rfl⟩
  · have d : decide (0 ≤ i ∧ i < (n : Int)) = false := by simp; omega
    rw [d]
    go_enter Try.func40, Try.ntmps40
    go_wp2_with (go_at_call 39; refine v0.mono ?_; rintro e w' ⟨rfl, rfl⟩)
    go_ret
    exact ⟨rfl, rfl⟩
theorem rmark_s : Calls Try.prog 34 #[.pointer (some ⟨b, 0, none⟩)] w fun e w' => e = .returned (.int .i64 (m : Int)) ∧ w = w' := by
  obtain ⟨c0, c1, c2⟩ := h.c
  obtain ⟨p, c, rfl⟩ := h.P
  have v0 := rvalid_s c0
  have hp := upPtrS
  clear h c0 c1
  go_enter Try.func34, Try.ntmps34
  go_wp2_with (go_at_call 39; refine v0.mono ?_; rintro e w' ⟨rfl, rfl⟩)
  go_ret
  exact ⟨rfl, rfl⟩
set_option maxHeartbeats 4000000 in
theorem rcount_s (hn : n ≤ 65536) (le : ∀ i, i < n → L i ≤ i) (idem : ∀ i, i < n → L (L i) = L i) : Calls Try.prog 33 #[.pointer (some ⟨b, 0, none⟩)] w fun e w' => e = .returned (.int .i64 ((roots L n : Nat) : Int)) ∧ Kp [] w w' := by
  obtain ⟨c0, c1, c2⟩ := h.c
  obtain ⟨p, c, rfl⟩ := row_slice h.L
  have v0 := rvalid_s c0
  have hp := upPtrS
  have R := hide (row_s w h.L hn le idem)
  rw [rowV_eq le] at R
  clear h c0 c2 hn le idem
  go_enter Try.func33, Try.ntmps33
  go_wp2_with fail
  refine v0.mono ?_
  rintro e w' ⟨rfl, rfl⟩
  go_wp2_with fail
  refine R.out.mono ?_
  rintro e w1 ⟨rfl, k1⟩
  have K1 := hide k1
  clear k1
  have fq := field40 (.int .i64 ((maxTo (fun i => cnt L i n) n : Nat) : Int)) (.int .i64 ((roots L n : Nat) : Int)) (.int .i64 ((sumTo (fun i => cnt L i n * cnt L i n) n : Nat) : Int)) w1
  go_wp2_with fail
  go_ret
  exact ⟨rfl, K1.out⟩
set_option maxRecDepth 100000 in
set_option maxHeartbeats 4000000 in
theorem rsame_s (x y : Int) : Calls Try.prog 31 #[.pointer (some ⟨b, 0, none⟩), .int .i64 x, .int .i64 y] w fun e w' => e = .returned (.bool (sameV n L x y)) ∧ Kp [] w w' := by
  have H1 := fun q => hide (rhas_s (h.keep (Kp.drewN [] w q) (by simp)) x)
  have H2 := fun q => hide (rhas_s (h.keep (Kp.drewN [] w q) (by simp)) y)
  obtain ⟨c0, c1, c2⟩ := h.c
  have HH := hide h
  have hp := upPtrS
  by_cases hx : 0 ≤ x ∧ x < (n : Int)
  · by_cases hy : 0 ≤ y ∧ y < (n : Int)
    · have ev : sameV n L x y = decide (L x.toNat = L y.toNat) := by unfold sameV; simp [hx, hy]
      rw [ev]
      have d1 : decide (0 ≤ x ∧ x < (n : Int)) = true := by simpa using hx
      have d2 : decide (0 ≤ y ∧ y < (n : Int)) = true := by simpa using hy
      rw [d1] at H1
      rw [d2] at H2
      obtain ⟨xn, rfl⟩ : ∃ xn : Nat, x = (xn : Int) := ⟨x.toNat, by omega⟩
      obtain ⟨yn, rfl⟩ : ∃ yn : Nat, y = (yn : Int) := ⟨y.toNat, by omega⟩
      have hxn : xn < n := by omega
      have hyn : yn < n := by omega
      obtain ⟨g, c, rfl⟩ := row_some h.L (by omega)
      have e1 := h.L.cellAt xn (by omega)
      rw [intsF_get L hxn] at e1
      have e2 := h.L.cellAt yn (by omega)
      rw [intsF_get L hyn] at e2
      simp only [Int.toNat_natCast]
      have G1 : ∀ q, Hid (Calls Try.prog 40 #[.pointer (some ⟨b, 0, none⟩), .int .i64 (xn : Int)] (w.drewN q) fun e w' => e = .returned (.bool true) ∧ w' = w.drewN q) := fun q => hide ((H1 q).out.mono (fun e w' h => ⟨h.1, h.2.symm⟩))
      have G2 : ∀ q, Hid (Calls Try.prog 40 #[.pointer (some ⟨b, 0, none⟩), .int .i64 (yn : Int)] (w.drewN q) fun e w' => e = .returned (.bool true) ∧ w' = w.drewN q) := fun q => hide ((H2 q).out.mono (fun e w' h => ⟨h.1, h.2.symm⟩))
      clear h H1 H2 d1 d2 hx hy ev c0 c2
      by_cases he : L xn = L yn
      · have de : decide (L xn = L yn) = true := by simp [he]
        rw [de]
        rw [he] at e1
        clear he de
        generalize L yn = l at *
        go_enter Try.func31, Try.ntmps31
        go_wp2_with fail
        go_quiet ((first | (go_at_call 40; with_reducible exact Calls.quiet_of_same (G1 _).out) | (go_at_call 40; with_reducible exact Calls.quiet_of_same (G2 _).out)))
        go_wp2_with fail
        go_ret
        exact ⟨rfl, Kp.drewN _ _ _⟩
      · have de : decide (L xn = L yn) = false := by simp [he]
        have ne : ((L xn : Int) == (L yn : Int)) = false := by simp; omega
        rw [de]
        clear he de
        generalize L yn = l at *
        generalize L xn = l2 at *
        go_enter Try.func31, Try.ntmps31
        go_wp2_with fail
        go_quiet ((first | (go_at_call 40; with_reducible exact Calls.quiet_of_same (G1 _).out) | (go_at_call 40; with_reducible exact Calls.quiet_of_same (G2 _).out)))
        go_wp2_with fail
        go_ret
        exact ⟨rfl, Kp.drewN _ _ _⟩
    · have ev : sameV n L x y = false := by unfold sameV; simp [hy]
      rw [ev]
      have d1 : decide (0 ≤ x ∧ x < (n : Int)) = true := by simpa using hx
      have d2 : decide (0 ≤ y ∧ y < (n : Int)) = false := by simpa using hy
      rw [d1] at H1
      rw [d2] at H2
      have G1 : ∀ q, Hid (Calls Try.prog 40 #[.pointer (some ⟨b, 0, none⟩), .int .i64 x] (w.drewN q) fun e w' => e = .returned (.bool true) ∧ w' = w.drewN q) := fun q => hide ((H1 q).out.mono (fun e w' h => ⟨h.1, h.2.symm⟩))
      have G2 : ∀ q, Hid (Calls Try.prog 40 #[.pointer (some ⟨b, 0, none⟩), .int .i64 y] (w.drewN q) fun e w' => e = .returned (.bool false) ∧ w' = w.drewN q) := fun q => hide ((H2 q).out.mono (fun e w' h => ⟨h.1, h.2.symm⟩))
      have nxy : x ≠ y := fun e => by subst e; exact hy hx
      clear h H1 H2 d1 d2 hx hy ev c0 c2
      go_enter Try.func31, Try.ntmps31
      go_wp2_with fail
      go_quiet ((first | (go_at_call 40; with_reducible exact Calls.quiet_of_same (G1 _).out) | (go_at_call 40; with_reducible exact Calls.quiet_of_same (G2 _).out)))
      go_wp2_with fail
      go_ret
      exact ⟨rfl, Kp.drewN _ _ _⟩
  · have ev : sameV n L x y = false := by unfold sameV; simp [hx]
    rw [ev]
    have d1 : decide (0 ≤ x ∧ x < (n : Int)) = false := by simpa using hx
    rw [d1] at H1
    have G1 : ∀ q, Hid (Calls Try.prog 40 #[.pointer (some ⟨b, 0, none⟩), .int .i64 x] (w.drewN q) fun e w' => e = .returned (.bool false) ∧ w' = w.drewN q) := fun q => hide ((H1 q).out.mono (fun e w' h => ⟨h.1, h.2.symm⟩))
    clear h H1 H2 d1 hx ev c0 c2
    go_enter Try.func31, Try.ntmps31
    go_wp2_with fail
    go_quiet ((go_at_call 40; with_reducible exact Calls.quiet_of_same (G1 _).out))
    go_wp2_with fail
    go_ret
    exact ⟨rfl, Kp.drewN _ _ _⟩
end
end Go.Proofs.Ytfjmnidenoojhaa
