/- Disjoint sets in memory; New, and the way to the root. -/
import Derived.Test.YtgnifimibonbjaaDu
set_option linter.unusedVariables false
set_option linter.unusedSimpArgs false
namespace Go.Proofs.Ytgnifimibonbjaa
open Go.RowKit

def intsF (n : Nat) (f : Nat → Nat) : List Value := (List.range n).map fun i : Nat => Value.int .i64 ((f i : Nat) : Int)
theorem intsF_get {n : Nat} (f : Nat → Nat) {i : Nat} (hi : i < n) : (intsF n f)[i]? = some (.int .i64 ((f i : Nat) : Int)) := by simp [intsF, hi]
theorem intsF_len (n : Nat) (f : Nat → Nat) : (intsF n f).length = n := by simp [intsF]
theorem intsF_set {n : Nat} (f : Nat → Nat) {a : Nat} (v : Nat) : (intsF n f).set a (.int .i64 (v : Int)) = intsF n (upd f a v) := by
  apply List.ext_getElem
  · simp [intsF]
  · intro j h1 h2
    rw [List.getElem_set]
    simp [intsF]
    by_cases e : a = j
    · subst e; simp [upd]
    · rw [if_neg e, upd_far (Ne.symm e)]
theorem intsF_one (n : Nat) (f : Nat → Nat) : ∀ u ∈ intsF n f, u.oneCell' = true := by
  intro u hu
  simp [intsF] at hu
  obtain ⟨i, _, rfl⟩ := hu
  rfl
theorem intsF_congr {n : Nat} {f g : Nat → Nat} (h : ∀ i, i < n → f i = g i) : intsF n f = intsF n g := by
  unfold intsF
  apply List.map_congr_left
  intro i hi
  simp at hi
  rw [h i hi]

structure DM (B : Nat) (w : World) (b : Nat) (vP vS : Value) (n count : Nat) (P Z : Nat → Nat) : Prop where
  blk : w.heap[b]? = some (.cells #[.bool true, .int .i64 (count : Int), vP, vS] 44 (0, 0))
  P : w.ownsRow B 3 1 vP n (intsF n P)
  S : w.ownsRow B 3 1 vS n (intsF n Z)
  ge : B ≤ b
  ap : Apart b vP.ownBlock vS.ownBlock none
/-- the sets at block b, which owns these blocks: n elements with the labels L -/
def DAt (B : Nat) (w : World) (b : Nat) (own : List Nat) (n : Nat) (L : Nat → Nat) : Prop :=
  ∃ vP vS P Z, DM B w b vP vS n (roots L n) P Z ∧ Good n P L ∧ n ≤ 65536 ∧ (∀ i, i < n → L i = i → Z i = cnt L i n) ∧ own = b :: (vP.ownBlock.toList ++ vS.ownBlock.toList)
theorem DM.c {B : Nat} {w : World} {b : Nat} {vP vS : Value} {n count : Nat} {P Z : Nat → Nat} (h : DM B w b vP vS n count P Z) :
    w.cell? ⟨b, 0, none⟩ = some (.bool true) ∧ w.cell? ⟨b, 1, none⟩ = some (.int .i64 (count : Int)) ∧ w.cell? ⟨b, 2, none⟩ = some vP ∧ w.cell? ⟨b, 3, none⟩ = some vS := by
  simp [cell_of_blk h.blk]
theorem DM.keep {B : Nat} {w w' : World} {b : Nat} {vP vS : Value} {n count : Nat} {P Z : Nat → Nat} {o : List Nat} (M : DM B w b vP vS n count P Z) (k : Kp o w w') (d : ∀ x ∈ b :: (vP.ownBlock.toList ++ vS.ownBlock.toList), x ∉ o) : DM B w' b vP vS n count P Z :=
  ⟨k.blk M.blk (d b (by simp)), k.row M.P (fun x hx => d x (by simp [hx])), k.row M.S (fun x hx => d x (by simp [hx])), M.ge, M.ap⟩
theorem DAt.keep {B : Nat} {w w' : World} {b n : Nat} {own o : List Nat} {L : Nat → Nat} (h : DAt B w b own n L) (k : Kp o w w') (d : ∀ x ∈ own, x ∉ o) : DAt B w' b own n L := by
  obtain ⟨vP, vS, P, Z, M, g, hn, hz, rfl⟩ := h
  exact ⟨vP, vS, P, Z, M.keep k d, g, hn, hz, rfl⟩
theorem DAt.lt {B : Nat} {w : World} {b n : Nat} {own : List Nat} {L : Nat → Nat} (h : DAt B w b own n L) : ∀ x ∈ own, B ≤ x ∧ x < w.heap.size := by
  obtain ⟨vP, vS, P, Z, M, g, hn, hz, rfl⟩ := h
  intro x hx
  simp at hx
  rcases hx with rfl | hx | hx
  · exact ⟨M.ge, lt_of_blk M.blk⟩
  · exact M.P.lt x hx
  · exact M.S.lt x hx
theorem DAt.mem {B : Nat} {w : World} {b n : Nat} {own : List Nat} {L : Nat → Nat} (h : DAt B w b own n L) : b ∈ own := by
  obtain ⟨vP, vS, P, Z, M, g, hn, hz, rfl⟩ := h
  simp
theorem DAt.good {B : Nat} {w : World} {b n : Nat} {own : List Nat} {L : Nat → Nat} (h : DAt B w b own n L) : n ≤ 65536 ∧ (∀ i, i < n → L i ≤ i) ∧ (∀ i, i < n → L (L i) = L i) := by
  obtain ⟨vP, vS, P, Z, M, g, hn, hz, rfl⟩ := h
  exact ⟨hn, g.ll, g.idem⟩
/-- what a call leaves: the same sets, or others, in the blocks that were owned -/
def DGoes (B : Nat) (w : World) (b : Nat) (own : List Nat) (n : Nat) (L : Nat → Nat) (w' : World) : Prop := DAt B w' b own n L ∧ Kp own w w'

theorem upPtr : Try.prog.pointee 22 = 44 := by kernel_rfl
theorem info3 : (Try.prog.info? 3).map (fun i => (i.zero, i.size, i.bytes)) = some (some (.int .i64 0), 1, 8) := by kernel_rfl
set_option maxHeartbeats 400000 in
theorem valid_t (b : Nat) (w : World) (h : w.cell? ⟨b, 0, none⟩ = some (.bool true)) :
    Calls Try.prog 30 #[.pointer (some ⟨b, 0, none⟩)] w fun e w' => e = .returned (.bool true) ∧ w = w' := by
  have hp := upPtr
  go_enter Try.func30, Try.ntmps30
  go_wp2_with fail
  go_ret
  exact ⟨rfl, rfl⟩
/-- no sets: nil, or never made -/
def bad (w : World) (p : Option Addr) : Prop := p = none ∨ ∃ b, p = some ⟨b, 0, none⟩ ∧ w.cell? ⟨b, 0, none⟩ = some (.bool false)
set_option maxHeartbeats 400000 in
theorem valid_f (p : Option Addr) (w : World) (h : bad w p) :
    Calls Try.prog 30 #[.pointer p] w fun e w' => e = .returned (.bool false) ∧ w = w' := by
  have hp := upPtr
  rcases h with rfl | ⟨b, rfl, h⟩
  · go_enter Try.func30, Try.ntmps30
    go_wp2_with fail
    go_ret
    exact ⟨rfl, rfl⟩
  · go_enter Try.func30, Try.ntmps30
    go_wp2_with fail
    go_ret
    exact ⟨rfl, rfl⟩
theorem len_of_row {w : World} {B e size n c : Nat} {p : Option Addr} {xs : List Value} (h : w.ownsRow B e size (.slice p n c) n xs) : True := trivial
set_option maxHeartbeats 1000000 in
theorem has_t {B : Nat} {w : World} {b n : Nat} {own : List Nat} {L : Nat → Nat} (h : DAt B w b own n L) (i : Int) :
    Calls Try.prog 31 #[.pointer (some ⟨b, 0, none⟩), .int .i64 i] w fun e w' => e = .returned (.bool (decide (0 ≤ i ∧ i < (n : Int)))) ∧ w = w' := by
  obtain ⟨vP, vS, P, Z, M, g, hn, hz, _⟩ := h
  obtain ⟨c0, c1, c2, c3⟩ := M.c
  obtain ⟨p, c, rfl⟩ := row_slice M.P
  have v0 := valid_t b w c0
  clear M g hz c0 c1 c3 hn
  by_cases h1 : 0 ≤ i
  · by_cases h2 : i < (n : Int)
    · have d : decide (0 ≤ i ∧ i < (n : Int)) = true := by simp; omega
      rw [d]
      go_enter Try.func31, Try.ntmps31
      go_wp2_with (go_at_call 30; refine v0.mono ?_; rintro e w' ⟨rfl, rfl⟩)
      go_ret
      exact ⟨rfl, rfl⟩
    · have d : decide (0 ≤ i ∧ i < (n : Int)) = false := by simp; omega
      rw [d]
      go_enter Try.func31, Try.ntmps31
      go_wp2_with (go_at_call 30; refine v0.mono ?_; rintro e w' ⟨rfl, rfl⟩)
      go_ret
      exact ⟨by simp; omega, rfl⟩
  · have d : decide (0 ≤ i ∧ i < (n : Int)) = false := by simp; omega
    rw [d]
    go_enter Try.func31, Try.ntmps31
    go_wp2_with (go_at_call 30; refine v0.mono ?_; rintro e w' ⟨rfl, rfl⟩)
    go_ret
    exact ⟨rfl, rfl⟩
theorem has_f (p : Option Addr) (i : Int) (w : World) (h : bad w p) :
    Calls Try.prog 31 #[.pointer p, .int .i64 i] w fun e w' => e = .returned (.bool false) ∧ w = w' := by
  have v0 := valid_f p w h
  go_enter Try.func31, Try.ntmps31
  go_wp2_with (go_at_call 30; refine v0.mono ?_; rintro e w' ⟨rfl, rfl⟩)
  go_ret
  exact ⟨rfl, rfl⟩
end Go.Proofs.Ytgnifimibonbjaa
