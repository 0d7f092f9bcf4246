/- What an arena shows: Used, Next, Times, Len, Cap. -/
import Derived.Test.YtflblojmjdlhiaaA
set_option linter.unusedVariables false
set_option linter.unusedSimpArgs false
namespace Go.Proofs.Ytflblojmjdlhiaa
open Go.RowKit

theorem lt_of_blk {w : World} {b : Nat} {o : Obj} (h : w.heap[b]? = some o) : b < w.heap.size := (Array.getElem?_eq_some_iff.1 h).1
theorem Kp.blk {o : List Nat} {w w' : World} (h : Kp o w w') {b : Nat} {x : Obj} (hb : w.heap[b]? = some x) (n : b ∉ o) : w'.heap[b]? = some x := by
  rw [h.block b (lt_of_blk hb) n]; exact hb
theorem Kp.row {o : List Nat} {w w' : World} (h : Kp o w w') {B e size n : Nat} {v : Value} {xs : List Value} (hv : w.ownsRow B e size v n xs) (hn : ∀ k, v.ownBlock = some k → k ∉ o) : w'.ownsRow B e size v n xs := by
  refine ⟨hv.1, ?_⟩
  rcases hv.2 with h1 | ⟨g, cap, cur, rfl, hb, hgg, rest⟩
  · exact .inl h1
  · exact .inr ⟨g, cap, cur, rfl, hb, h.blk hgg (hn g rfl), rest⟩
theorem At.keep {B : Nat} {w w' : World} {b : Nat} {own o : List Nat} {A : Ar} (h : At B w b own A) (k : Kp o w w') (d : ∀ x ∈ own, x ∉ o) : At B w' b own A := by
  obtain ⟨v, nb, xs, len, begun, top, U, M, R, ok, rfl⟩ := h
  refine ⟨v, nb, xs, len, begun, top, U, ⟨k.blk M.blk (d b (by simp)), k.row M.own fun x hx => d x (by simp [hx]), M.ne, M.ge⟩, R, ok, rfl⟩
theorem At.lt {B : Nat} {w : World} {b : Nat} {own : List Nat} {A : Ar} (h : At B w b own A) : ∀ x ∈ own, B ≤ x ∧ x < w.heap.size := by
  obtain ⟨v, nb, xs, len, begun, top, U, M, R, ok, rfl⟩ := h
  intro x hx
  simp at hx
  rcases hx with rfl | hx
  · exact ⟨M.ge, lt_of_blk M.blk⟩
  · exact M.own.lt x hx
theorem At.ok {B : Nat} {w : World} {b : Nat} {own : List Nat} {A : Ar} (h : At B w b own A) : A.ok := by
  obtain ⟨v, nb, xs, len, begun, top, U, M, R, ok, rfl⟩ := h
  exact ok
theorem At.mem {B : Nat} {w : World} {b : Nat} {own : List Nat} {A : Ar} (h : At B w b own A) : b ∈ own := by
  obtain ⟨v, nb, xs, len, begun, top, U, M, R, ok, rfl⟩ := h
  simp

/-- the cells of a slot that has been in use -/
theorem slot_cells {B : Nat} {w : World} {b : Nat} {v : Value} {nb : Nat} {xs : List Value} {cap len begun : Nat} {top : Int} (M : Mem B w b v nb xs cap len begun top) {i : Nat} (hi : i < nb * 64) :
    ∃ g c, v = .slice (some ⟨g, 0, none⟩) nb c ∧ g ≠ b ∧ (w.cell? ⟨g, 3 * i, none⟩ = xs[3 * i]? ∧ w.cell? ⟨g, 3 * i + 1, none⟩ = xs[3 * i + 1]? ∧ w.cell? ⟨g, 3 * i + 2, none⟩ = xs[3 * i + 2]?) ∧ (∀ j, w.frozen? ⟨g, j, none⟩ = false) := by
  obtain ⟨hl, h | ⟨g, c, cur, rfl, hg, hh, hn, hm, hsz, ht⟩⟩ := M.own
  · obtain ⟨_, rfl⟩ := h; omega
  · have o : w.ownsRow B 75 192 (.slice (some ⟨g, 0, none⟩) nb c) nb xs := ⟨hl, .inr ⟨g, c, cur, rfl, hg, hh, hn, hm, hsz, ht⟩⟩
    refine ⟨g, c, rfl, fun e => M.ne (by simp [Value.ownBlock, e]), ⟨o.cellAt _ (by omega), o.cellAt _ (by omega), o.cellAt _ (by omega)⟩, fun j => o.frozenAt j⟩

def Ar.used (A : Ar) (i : Int) : Bool := decide (0 ≤ i ∧ i < (A.T.length : Int)) && !decide (i.toNat ∈ A.fr)
def Ar.next (A : Ar) : Option Nat := match A.fr with
  | i :: _ => some i
  | [] => if A.T.length < A.cap then some A.T.length else none
def Ar.times (A : Ar) (i : Int) : Int := if 0 ≤ i ∧ i < (A.T.length : Int) then A.T.getD i.toNat 0 else 0
def Ar.len (A : Ar) : Nat := A.T.length - A.fr.length

set_option maxHeartbeats 1000000 in
theorem used_t {B : Nat} {w : World} {b : Nat} {own : List Nat} {A : Ar} (h : At B w b own A) (i : Int) :
    Calls Try.prog 23 #[.pointer (some ⟨b, 0, none⟩), .int .i64 i] w fun e w' => e = .returned (.bool (A.used i)) ∧ w = w' := by
  obtain ⟨v, nb, xs, len, begun, top, U, M, R, ok, rfl⟩ := h
  obtain ⟨c0, c1, c2, c3, c4, c5⟩ := M.c
  have hb := R.beg
  have n1 := R.nb1
  have n2 := R.nb2
  have le := ok.le
  have cp := ok.cap
  by_cases hi : 0 ≤ i ∧ i < (begun : Int)
  · obtain ⟨k, rfl⟩ : ∃ k : Nat, i = (k : Int) := ⟨i.toNat, by omega⟩
    have hk : k < begun := by omega
    obtain ⟨g, c, rfl, hgb, ⟨s0, s1, s2⟩, fr⟩ := slot_cells M (i := k) (by omega)
    rw [R.st k hk] at s0
    have H := hide c5
    have H1 := hide (show k < nb * 64 by omega)
    have H2 := hide (show nb ≤ 2000 by omega)
    have ht := has_t b k begun w c0 c3
    rw [show decide (0 ≤ (k : Int) ∧ (k : Int) < (begun : Int)) = true by simp; omega] at ht
    by_cases hm : k ∈ A.fr
    · have e : A.used k = false := by simp [Ar.used, hm]
      rw [e]
      rw [if_pos hm] at s0
      clear c5 R M n1 n2
      go_enter Try.func23, Try.ntmps23
      go_wp2_with (first | (go_at_call 43; refine ht.mono ?_; rintro e w' ⟨rfl, rfl⟩) | (go_at_call 39; refine (at_t b g k nb c _ H.out H1.out H2.out).mono ?_; rintro e w' ⟨rfl, rfl⟩))
      go_ret
      exact ⟨by simp, rfl⟩
    · have e : A.used k = true := by simp [Ar.used, hm]; omega
      rw [e]
      rw [if_neg hm] at s0
      clear c5 R M n1 n2
      go_enter Try.func23, Try.ntmps23
      go_wp2_with (first | (go_at_call 43; refine ht.mono ?_; rintro e w' ⟨rfl, rfl⟩) | (go_at_call 39; refine (at_t b g k nb c _ H.out H1.out H2.out).mono ?_; rintro e w' ⟨rfl, rfl⟩))
      go_ret
      exact ⟨by simp, rfl⟩
  · have ht := has_t b i begun w c0 c3
    rw [show decide (0 ≤ i ∧ i < (begun : Int)) = false by simp; omega] at ht
    have e : A.used i = false := by
      have d : decide (0 ≤ i ∧ i < (A.T.length : Int)) = false := by rw [← hb]; simp; omega
      unfold Ar.used
      rw [d]; rfl
    rw [e]
    go_enter Try.func23, Try.ntmps23
    go_wp2_with (go_at_call 43; refine ht.mono ?_; rintro e w' ⟨rfl, rfl⟩)
    go_ret
    exact ⟨by simp, rfl⟩
theorem used_f (p : Option Addr) (i : Int) (w : World) (h : p = none ∨ ∃ b, p = some ⟨b, 0, none⟩ ∧ w.cell? ⟨b, 0, none⟩ = some (.bool false)) :
    Calls Try.prog 23 #[.pointer p, .int .i64 i] w fun e w' => e = .returned (.bool false) ∧ w = w' := by
  have ht := has_f p i w h
  go_enter Try.func23, Try.ntmps23
  go_wp2_with (go_at_call 43; refine ht.mono ?_; rintro e w' ⟨rfl, rfl⟩)
  go_ret
  exact ⟨by simp, rfl⟩
set_option maxHeartbeats 1000000 in
theorem times_t {B : Nat} {w : World} {b : Nat} {own : List Nat} {A : Ar} (h : At B w b own A) (i : Int) :
    Calls Try.prog 24 #[.pointer (some ⟨b, 0, none⟩), .int .i64 i] w fun e w' => e = .returned (.int .u64 (A.times i)) ∧ w = w' := by
  obtain ⟨v, nb, xs, len, begun, top, U, M, R, ok, rfl⟩ := h
  obtain ⟨c0, c1, c2, c3, c4, c5⟩ := M.c
  have hb := R.beg
  have n1 := R.nb1
  have n2 := R.nb2
  have le := ok.le
  have cp := ok.cap
  by_cases hi : 0 ≤ i ∧ i < (begun : Int)
  · obtain ⟨k, rfl⟩ : ∃ k : Nat, i = (k : Int) := ⟨i.toNat, by omega⟩
    have hk : k < begun := by omega
    obtain ⟨g, c, rfl, hgb, ⟨s0, s1, s2⟩, fr⟩ := slot_cells M (i := k) (by omega)
    rw [R.tm k hk] at s1
    have H := hide c5
    have H1 := hide (show k < nb * 64 by omega)
    have H2 := hide (show nb ≤ 2000 by omega)
    have ht := has_t b k begun w c0 c3
    rw [show decide (0 ≤ (k : Int) ∧ (k : Int) < (begun : Int)) = true by simp; omega] at ht
    have e : A.times k = A.T.getD k 0 := by unfold Ar.times; rw [if_pos (by omega)]; rfl
    rw [e]
    generalize A.T.getD k 0 = z at *
    clear c5 R M n1 n2
    go_enter Try.func24, Try.ntmps24
    go_wp2_with (first | (go_at_call 43; refine ht.mono ?_; rintro e w' ⟨rfl, rfl⟩) | (go_at_call 39; refine (at_t b g k nb c _ H.out H1.out H2.out).mono ?_; rintro e w' ⟨rfl, rfl⟩))
    go_ret
    exact ⟨rfl, rfl⟩
  · have ht := has_t b i begun w c0 c3
    rw [show decide (0 ≤ i ∧ i < (begun : Int)) = false by simp; omega] at ht
    have e : A.times i = 0 := by unfold Ar.times; rw [if_neg (by omega)]
    rw [e]
    go_enter Try.func24, Try.ntmps24
    go_wp2_with (go_at_call 43; refine ht.mono ?_; rintro e w' ⟨rfl, rfl⟩)
    go_ret
    exact ⟨rfl, rfl⟩
theorem times_f (p : Option Addr) (i : Int) (w : World) (h : p = none ∨ ∃ b, p = some ⟨b, 0, none⟩ ∧ w.cell? ⟨b, 0, none⟩ = some (.bool false)) :
    Calls Try.prog 24 #[.pointer p, .int .i64 i] w fun e w' => e = .returned (.int .u64 0) ∧ w = w' := by
  have ht := has_f p i w h
  go_enter Try.func24, Try.ntmps24
  go_wp2_with (go_at_call 43; refine ht.mono ?_; rintro e w' ⟨rfl, rfl⟩)
  go_ret
  exact ⟨rfl, rfl⟩
theorem valid_f (p : Option Addr) (w : World) (h : p = none ∨ ∃ b, p = some ⟨b, 0, none⟩ ∧ w.cell? ⟨b, 0, none⟩ = some (.bool false)) :
    Calls Try.prog 37 #[.pointer p] w fun e w' => e = .returned (.bool false) ∧ w = w' := by
  rcases h with rfl | ⟨b, rfl, h⟩
  · exact valid_nil w
  · exact valid_zero b w h
set_option maxHeartbeats 1000000 in
theorem len_t {B : Nat} {w : World} {b : Nat} {own : List Nat} {A : Ar} (h : At B w b own A) :
    Calls Try.prog 25 #[.pointer (some ⟨b, 0, none⟩)] w fun e w' => e = .returned (.int .i64 (A.len : Int)) ∧ w = w' := by
  obtain ⟨v, nb, xs, len, begun, top, U, M, R, ok, rfl⟩ := h
  obtain ⟨c0, c1, c2, c3, c4, c5⟩ := M.c
  have hl : A.len = len := by have := R.len; have := R.beg; unfold Ar.len; omega
  rw [hl]
  clear hl R M c5
  go_enter Try.func25, Try.ntmps25
  go_wp2_with (go_at_call 37; refine (valid_t b _ c0).mono ?_; rintro e w' ⟨rfl, rfl⟩)
  go_ret
  exact ⟨rfl, rfl⟩
theorem len_f (p : Option Addr) (w : World) (h : p = none ∨ ∃ b, p = some ⟨b, 0, none⟩ ∧ w.cell? ⟨b, 0, none⟩ = some (.bool false)) :
    Calls Try.prog 25 #[.pointer p] w fun e w' => e = .returned (.int .i64 0) ∧ w = w' := by
  have ht := valid_f p w h
  go_enter Try.func25, Try.ntmps25
  go_wp2_with (go_at_call 37; refine ht.mono ?_; rintro e w' ⟨rfl, rfl⟩)
  go_ret
  exact ⟨rfl, rfl⟩
set_option maxHeartbeats 1000000 in
theorem cap_t {B : Nat} {w : World} {b : Nat} {own : List Nat} {A : Ar} (h : At B w b own A) :
    Calls Try.prog 26 #[.pointer (some ⟨b, 0, none⟩)] w fun e w' => e = .returned (.int .i64 (A.cap : Int)) ∧ w = w' := by
  obtain ⟨v, nb, xs, len, begun, top, U, M, R, ok, rfl⟩ := h
  obtain ⟨c0, c1, c2, c3, c4, c5⟩ := M.c
  clear R M c5
  go_enter Try.func26, Try.ntmps26
  go_wp2_with (go_at_call 37; refine (valid_t b _ c0).mono ?_; rintro e w' ⟨rfl, rfl⟩)
  go_ret
  exact ⟨rfl, rfl⟩
theorem cap_f (p : Option Addr) (w : World) (h : p = none ∨ ∃ b, p = some ⟨b, 0, none⟩ ∧ w.cell? ⟨b, 0, none⟩ = some (.bool false)) :
    Calls Try.prog 26 #[.pointer p] w fun e w' => e = .returned (.int .i64 0) ∧ w = w' := by
  have ht := valid_f p w h
  go_enter Try.func26, Try.ntmps26
  go_wp2_with (go_at_call 37; refine ht.mono ?_; rintro e w' ⟨rfl, rfl⟩)
  go_ret
  exact ⟨rfl, rfl⟩
def nextV (A : Ar) : Value := match A.next with
  | some i => .tuple #[.int .i64 (i : Int), .bool true]
  | none => .tuple #[.int .i64 0, .bool false]
set_option maxHeartbeats 1000000 in
theorem next_t {B : Nat} {w : World} {b : Nat} {own : List Nat} {A : Ar} (h : At B w b own A) :
    Calls Try.prog 22 #[.pointer (some ⟨b, 0, none⟩)] w fun e w' => e = .returned (nextV A) ∧ Kp [] w w' := by
  obtain ⟨v, nb, xs, len, begun, top, U, M, R, ok, rfl⟩ := h
  obtain ⟨c0, c1, c2, c3, c4, c5⟩ := M.c
  have hb := R.beg
  have ht := R.top
  rcases hf : A.fr with _ | ⟨i, r⟩
  · rw [hf] at ht
    simp only [topOf] at ht
    subst ht
    by_cases hl : begun < A.cap
    · have e : nextV A = .tuple #[.int .i64 (begun : Int), .bool true] := by unfold nextV Ar.next; rw [hf]; simp [← hb, hl]
      have d : decide ((begun : Int) < (A.cap : Int)) = true := by simp; omega
      rw [e]
      clear R M c5 hb e hf
      go_enter Try.func22, Try.ntmps22
      go_wp2_with (go_at_call 37; refine (valid_t b _ c0).mono ?_; rintro e w' ⟨rfl, rfl⟩)
      go_quiet (fail)
      go_wp2_with fail
      go_ret2
      exact ⟨rfl, Kp.drewN _ _ _⟩
    · have e : nextV A = .tuple #[.int .i64 0, .bool false] := by unfold nextV Ar.next; rw [hf]; simp [← hb, hl]
      have d : decide ((begun : Int) < (A.cap : Int)) = false := by simp; omega
      rw [e]
      clear R M c5 hb e hf
      go_enter Try.func22, Try.ntmps22
      go_wp2_with (go_at_call 37; refine (valid_t b _ c0).mono ?_; rintro e w' ⟨rfl, rfl⟩)
      go_quiet (fail)
      go_wp2_with fail
      go_ret2
      exact ⟨rfl, Kp.drewN _ _ _⟩
  · rw [hf] at ht
    simp only [topOf] at ht
    subst ht
    have e : nextV A = .tuple #[.int .i64 (i : Int), .bool true] := by unfold nextV Ar.next; rw [hf]
    rw [e]
    have d : ((i : Int) = -1) = False := by simp
    clear R M c5 hb e hf
    go_enter Try.func22, Try.ntmps22
    go_wp2_with (go_at_call 37; refine (valid_t b _ c0).mono ?_; rintro e w' ⟨rfl, rfl⟩)
    go_ret2
    exact ⟨rfl, Kp.refl _ _⟩
theorem next_f (p : Option Addr) (w : World) (h : p = none ∨ ∃ b, p = some ⟨b, 0, none⟩ ∧ w.cell? ⟨b, 0, none⟩ = some (.bool false)) :
    Calls Try.prog 22 #[.pointer p] w fun e w' => e = .returned (.tuple #[.int .i64 0, .bool false]) ∧ w = w' := by
  have ht := valid_f p w h
  go_enter Try.func22, Try.ntmps22
  go_wp2_with (go_at_call 37; refine ht.mono ?_; rintro e w' ⟨rfl, rfl⟩)
  go_ret2
  exact ⟨rfl, rfl⟩
end Go.Proofs.Ytflblojmjdlhiaa
