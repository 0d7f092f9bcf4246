/- Histograms in memory; valid, sum, Total. -/
import Derived.Test.YtenoalfjobghnaaGen
import Derived.WalkSpells
set_option linter.unusedVariables false
set_option linter.unusedSimpArgs false
namespace Go.Proofs.Ytenoalfjobghnaa
open Go.RowKit

theorem Kp.alloc {o : List Nat} (w : World) (x : Obj) : Kp o w (w.alloc x) := Kp.of_below ((Below.refl _ _).alloc (Nat.le_refl _) _)
def intsI (n : Nat) (f : Nat → Int) : List Value := (List.range n).map fun i : Nat => Value.int .i64 (f i)
theorem intsI_get {n : Nat} (f : Nat → Int) {i : Nat} (hi : i < n) : (intsI n f)[i]? = some (.int .i64 (f i)) := by simp [intsI, hi]
theorem intsI_len (n : Nat) (f : Nat → Int) : (intsI n f).length = n := by simp [intsI]
def updI (f : Nat → Int) (a : Nat) (v : Int) : Nat → Int := fun i => if i = a then v else f i
theorem intsI_set {n : Nat} (f : Nat → Int) {a : Nat} (v : Int) : (intsI n f).set a (.int .i64 v) = intsI n (updI f a v) := by
  apply List.ext_getElem
  · simp [intsI]
  · intro j h1 h2
    rw [List.getElem_set]
    simp [intsI]
    by_cases e : a = j
    · subst e; simp [updI]
    · rw [if_neg e]; simp [updI, Ne.symm e]
theorem intsI_one (n : Nat) (f : Nat → Int) : ∀ u ∈ intsI n f, u.oneCell' = true := by
  intro u hu
  simp [intsI] at hu
  obtain ⟨i, _, rfl⟩ := hu
  rfl
theorem intsI_congr {n : Nat} {f g : Nat → Int} (h : ∀ i, i < n → f i = g i) : intsI n f = intsI n g := by
  unfold intsI
  apply List.map_congr_left
  intro i hi
  simp at hi
  rw [h i hi]
/-- a histogram at block b: m bounds V, m + 1 counts C -/
structure HM (B : Nat) (w : World) (b : Nat) (vB vC : Value) (m : Nat) (V C : Nat → Int) : Prop where
  blk : w.heap[b]? = some (.cells #[vB, vC] 54 (0, 0))
  rB : w.ownsRow B 2 1 vB m (intsI m V)
  rC : w.ownsRow B 2 1 vC (m + 1) (intsI (m + 1) C)
  ge : B ≤ b
  nB : ∀ k, vB.ownBlock = some k → k ≠ b
  nC : ∀ k, vC.ownBlock = some k → k ≠ b
  ne : ∀ k, vB.ownBlock = some k → vC.ownBlock ≠ some k
def HM.own (b : Nat) (vB vC : Value) : List Nat := b :: (vB.ownBlock.toList ++ vC.ownBlock.toList)
theorem HM.keep {B : Nat} {w w' : World} {b : Nat} {vB vC : Value} {m : Nat} {V C : Nat → Int} {o : List Nat} (M : HM B w b vB vC m V C) (k : Kp o w w') (d : ∀ x ∈ HM.own b vB vC, x ∉ o) : HM B w' b vB vC m V C :=
  ⟨k.blk M.blk (d b (by simp [HM.own])), k.row M.rB (fun x hx => d x (by simp [HM.own, hx])), k.row M.rC (fun x hx => d x (by simp [HM.own, hx])), M.ge, M.nB, M.nC, M.ne⟩
theorem HM.c {B : Nat} {w : World} {b : Nat} {vB vC : Value} {m : Nat} {V C : Nat → Int} (M : HM B w b vB vC m V C) : w.cell? ⟨b, 0, none⟩ = some vB ∧ w.cell? ⟨b, 1, none⟩ = some vC := by
  simp [cell_of_blk M.blk]
theorem HM.lt {B : Nat} {w : World} {b : Nat} {vB vC : Value} {m : Nat} {V C : Nat → Int} (M : HM B w b vB vC m V C) : ∀ x ∈ HM.own b vB vC, B ≤ x ∧ x < w.heap.size := by
  intro x hx
  simp [HM.own] at hx
  rcases hx with rfl | hx | hx
  · exact ⟨M.ge, lt_of_blk M.blk⟩
  · exact M.rB.lt x hx
  · exact M.rC.lt x hx
theorem rowSome {w : World} {B e size n c : Nat} {p : Option Addr} {xs : List Value} (h : w.ownsRow B e size (.slice p n c) n xs) (hn : 0 < n) : ∃ g, p = some ⟨g, 0, none⟩ := by
  rcases h.2 with ⟨he, h0⟩ | ⟨g, c', cur, he, _⟩
  · omega
  · injection he with he _ _; exact ⟨g, he⟩
/-- the counts are never nil -/
theorem HM.C_at {B : Nat} {w : World} {b : Nat} {vB vC : Value} {m : Nat} {V C : Nat → Int} (M : HM B w b vB vC m V C) : ∃ g c, vC = .slice (some ⟨g, 0, none⟩) (m + 1) c := by
  obtain ⟨p, c, rfl⟩ := row_slice M.rC
  obtain ⟨g, rfl⟩ := rowSome M.rC (by omega)
  exact ⟨g, c, rfl⟩
theorem ptrH : Try.prog.pointee 24 = 54 := by kernel_rfl
theorem neqS (a : Option Addr) (l c : Nat) (w : World) : (binOp .neq 22 (.slice a l c) (.slice none 0 0)).run Try.prog w = .ok (.bool (!a.isNone)) w := run_neq_slice_nil_any w _ _ a l c 0 0 Try.underlying22
theorem valid_t {w : World} {b n c : Nat} {g : Addr} (c1 : w.cell? ⟨b, 1, none⟩ = some (.slice (some g) n c)) : Calls Try.prog 38 #[.pointer (some ⟨b, 0, none⟩)] w fun e w' => e = .returned (.bool true) ∧ w = w' := by
  have q := neqS (some g) n c w
  have hp := ptrH
  go_enter Try.func38, Try.ntmps38
  go_wp2_with fail
  go_ret
  exact ⟨rfl, rfl⟩
theorem valid_e {w : World} {b : Nat} (c1 : w.cell? ⟨b, 1, none⟩ = some (.slice none 0 0)) : Calls Try.prog 38 #[.pointer (some ⟨b, 0, none⟩)] w fun e w' => e = .returned (.bool false) ∧ w = w' := by
  have q := neqS none 0 0 w
  have hp := ptrH
  go_enter Try.func38, Try.ntmps38
  go_wp2_with fail
  go_ret
  exact ⟨rfl, rfl⟩
theorem valid_n (w : World) : Calls Try.prog 38 #[.pointer none] w fun e w' => e = .returned (.bool false) ∧ w = w' := by
  go_enter Try.func38, Try.ntmps38
  go_wp2_with fail
  go_ret
  exact ⟨rfl, rfl⟩
def sumI (f : Nat → Int) : Nat → Int
  | 0 => 0
  | k + 1 => sumI f k + f k
theorem sumI_nn {f : Nat → Int} {n : Nat} (h : ∀ i, i < n → 0 ≤ f i) : ∀ k, k ≤ n → 0 ≤ sumI f k := by
  intro k
  induction k with
  | zero => intro _; exact Int.le_refl _
  | succ k ih => intro hk; have := ih (by omega); have := h k (by omega); simp only [sumI]; omega
theorem sumI_mono {f : Nat → Int} {n : Nat} (h : ∀ i, i < n → 0 ≤ f i) : ∀ k j, j ≤ k → k ≤ n → sumI f j ≤ sumI f k := by
  intro k
  induction k with
  | zero => intro j hj _; rw [show j = 0 by omega]; exact Int.le_refl _
  | succ k ih =>
    intro j hj hk
    by_cases e : j = k + 1
    · subst e; exact Int.le_refl _
    · have := ih j (by omega) (by omega); have := h k (by omega); simp only [sumI]; omega
set_option maxRecDepth 100000 in
set_option maxHeartbeats 2000000 in
theorem sum_t {w : World} {g off n c : Nat} {f : Nat → Int} (hc : ∀ i, i < n → w.cell? ⟨g, off + i, none⟩ = some (.int .i64 (f i))) (hn : n ≤ 65536) (nn : ∀ i, i < n → 0 ≤ f i) (top : sumI f n ≤ 9223372036854775807) :
    Calls Try.prog 44 #[.slice (some ⟨g, off, none⟩) n c] w fun e w' => e = .returned (.int .i64 (sumI f n)) ∧ w = w' := by
  have HC := hide hc
  have HN := hide hn
  have HP := hide nn
  have HT := hide top
  clear hc hn nn top
  go_enter Try.func44, Try.ntmps44
  go_wp2_with fail
  go_loop [3, 8] (fun z i => ∃ k : Nat, k ≤ n ∧ i = .int .i64 (k : Int) ∧ z = .int .i64 (sumI f k)) (fun _ i => n - (intOf i).toNat)
  case atStart => exact ⟨0, Nat.zero_le _, rfl, rfl⟩
  case round =>
    obtain ⟨k, hk, rfl, rfl⟩ := hrel
    by_cases hlt : k < n
    · have dk : decide ((k : Int) < (n : Int)) = true := by simp; omega
      have dk' : decide (k < n) = true := by simp; omega
      have ww : IntKind.i64.wrap ((k : Int) + 1) = ((k + 1 : Nat) : Int) := by have := HN.out; rw [IntKind.wrap_i64]; omega
      have e1 := HC.out k hlt
      have b1 := sumI_mono HP.out n (k + 1) (by omega) (Nat.le_refl _)
      have b2 := sumI_nn HP.out (k + 1) (by omega)
      have b3 := HT.out
      have NS := hide (show sumI f (k + 1) = sumI f k + f k from rfl)
      have wa : IntKind.i64.wrap (sumI f k + f k) = sumI f (k + 1) := by rw [IntKind.wrap_i64, ← NS.out]; omega
      clear b1 b2 b3
      generalize sumI f k = z at *
      generalize f k = y at *
      go_wp2_with fail
      go_round
      case rel => exact ⟨k + 1, by omega, by first | rfl | go_num, rfl⟩
      case measure => simp [intOf]; omega
    · have : k = n := by omega
      subst this
      have dk : decide ((k : Int) < (k : Int)) = false := by simp
      have dk' : decide (k < k) = false := by simp
      go_wp2_with fail
      go_ret
      exact ⟨rfl, rfl⟩
theorem total_t {B : Nat} {w : World} {b : Nat} {vB vC : Value} {m : Nat} {V C : Nat → Int} (M : HM B w b vB vC m V C) (hm : m ≤ 1024) (nn : ∀ i, i < m + 1 → 0 ≤ C i) (top : sumI C (m + 1) ≤ 9223372036854775807) :
    Calls Try.prog 31 #[.pointer (some ⟨b, 0, none⟩)] w fun e w' => e = .returned (.int .i64 (sumI C (m + 1))) ∧ w = w' := by
  obtain ⟨g, c, rfl⟩ := M.C_at
  have c1 := M.c.2
  have v0 := hide (valid_t c1)
  have s0 := hide (sum_t (w := w) (g := g) (off := 0) (n := m + 1) (c := c) (f := C) (fun i hi => by have := M.rC.cellAt i (by omega); rw [intsI_get C hi] at this; simpa using this) (by omega) nn top)
  have hp := ptrH
  clear M hm nn top
  generalize sumI C (m + 1) = z at *
  generalize m + 1 = m1 at *
  go_enter Try.func31, Try.ntmps31
  go_wp2_with fail
  refine v0.out.mono ?_
  rintro e w' ⟨rfl, rfl⟩
  go_wp2_with fail
  refine s0.out.mono ?_
  rintro e w' ⟨rfl, rfl⟩
  go_wp2_with fail
  go_ret
  exact ⟨rfl, rfl⟩
end Go.Proofs.Ytenoalfjobghnaa
