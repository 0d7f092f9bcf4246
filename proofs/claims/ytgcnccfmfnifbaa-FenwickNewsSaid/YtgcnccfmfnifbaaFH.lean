/- holders. -/
import Derived.Test.YtgcnccfmfnifbaaFG
set_option linter.unusedVariables false
set_option linter.unusedSimpArgs false
namespace Go.Proofs.Ytgcnccfmfnifbaa
open Go.RowKit Go.Shelf

attribute [local go_sem] Oper.semAt_some

/-- all blocks below n0 but one are as they were -/
structure Kx (n0 g : Nat) (w w' : World) : Prop where
  os : w'.os = w.os
  tape : w'.tape = w.tape
  output : w'.output = w.output
  size : w.heap.size ≤ w'.heap.size
  block : ∀ i, i < n0 → i ≠ g → w'.heap[i]? = w.heap[i]?
theorem Kx.refl (n0 g : Nat) (w : World) : Kx n0 g w w := ⟨rfl, rfl, rfl, Nat.le_refl _, fun _ _ _ => rfl⟩
theorem Kx.trans {n0 g : Nat} {A B C : World} (h : Kx n0 g A B) (k : Kx n0 g B C) : Kx n0 g A C := ⟨k.os.trans h.os, k.tape.trans h.tape, k.output.trans h.output, Nat.le_trans h.size k.size, fun i hi ho => (k.block i hi ho).trans (h.block i hi ho)⟩
theorem Kx.grown {n0 g : Nat} {A B : World} {row : Option Nat} (h : A.grownBy B row) (hn : n0 ≤ A.heap.size) (hr : ∀ r, row = some r → n0 ≤ r) : Kx n0 g A B := ⟨h.os, h.tape, h.output, h.size, fun i hi _ => h.block i (by omega) (fun e => by have := hr i e.symm; omega)⟩
theorem Kx.set {n0 g : Nat} (w : World) (o : Nat) (v : Value) : Kx n0 g w (w.setCell ⟨g, o, none⟩ v) := ⟨rfl, rfl, rfl, by simp [World.setCell], fun k hk ho => Below.heap_setCell _ _ _ _ ho⟩
theorem Kx.drew {n0 g : Nat} (w : World) : Kx n0 g w w.drew := ⟨rfl, rfl, rfl, Nat.le_refl _, fun _ _ _ => rfl⟩
theorem Kx.blk {n0 g : Nat} {w w' : World} (h : Kx n0 g w w') {b : Nat} {x : Obj} (hb : w.heap[b]? = some x) (h0 : b < n0) (h1 : b ≠ g) : w'.heap[b]? = some x := (h.block b h0 h1).trans hb
def hl (n : Nat) : Nat → Nat → List (Sb n)
  | 0, _ => []
  | f + 1, k => if h : 1 ≤ k ∧ k ≤ n then ⟨k, h⟩ :: hl n f (k + low k) else []
theorem hl_at {n f k : Nat} (h : 1 ≤ k ∧ k ≤ n) : hl n (f + 1) k = ⟨k, h⟩ :: hl n f (k + low k) := by simp [hl, h]
theorem hl_end {n f k : Nat} (h : n < k) : hl n f k = [] := by cases f <;> simp [hl]; omega
theorem hl_len (n : Nat) : ∀ (f k : Nat), 1 ≤ k → (hl n f k).length + k ≤ n + 1 ∨ (hl n f k) = [] := by
  intro f
  induction f with
  | zero => intro k hk; exact .inr rfl
  | succ f ih =>
    intro k hk
    by_cases h : 1 ≤ k ∧ k ≤ n
    · rw [hl_at h]
      have := low_bd k (by omega)
      left
      rcases ih (k + low k) (by omega) with h2 | h2
      · simp; omega
      · rw [h2]; simp; omega
    · exact .inr (by simp [hl, h])
set_option maxRecDepth 100000 in
set_option maxHeartbeats 4000000 in
theorem holders1_in (F : Fence) (m : Nat) (h41 : F.fn 41) (hro : F.round = none) (hm : 1 ≤ m) (l bi bp b n i c : Nat) (p : Option Addr) (hn : n ≤ 65536) (hi : i ≤ n) (Kq : World → World → Prop)
    (hKr : ∀ W, Kq W W) (hKt : ∀ {A B C : World}, Kq A B → Kq B C → Kq A C) (J Jx : List (Sb n) → World → Prop)
    (hY : ∀ pre x W, J pre W → pre.length < n + 1 → YieldAt F (m - 1) Try.prog l (encB x) W fun e W' =>
      (e = .returned (.bool true) ∧ J (pre ++ [x]) W' ∧ Kq W W') ∨ (e = .returned (.bool false) ∧ Jx (pre ++ [x]) W'))
    (W : World) (hb : ∀ W', Kq W W' → W'.cell? ⟨bi, 0, none⟩ = some (.int .i64 (i : Int)) ∧ W'.cell? ⟨bp, 0, none⟩ = some (.pointer (some ⟨b, 0, none⟩)) ∧ W'.cell? ⟨b, 2, none⟩ = some (.slice p n c)) (h0 : J [] W) :
    CallsIn F m Try.prog 41 #[.func (.yield l) #[] #[], .pointer (some ⟨bi, 0, none⟩), .pointer (some ⟨bp, 0, none⟩)] W fun e W' => (∃ v, e = .returned v) ∧
      ((∃ ys, ys = hl n (n + 1) (i + 1) ∧ J ys W') ∨ (∃ pre, True ∧ Jx pre W')) := by
  obtain ⟨hb1, hb2, hb3⟩ := hb W (hKr W)
  have wi : IntKind.i64.wrap ((i : Int) + 1) = (i : Int) + 1 := by rw [IntKind.wrap_i64]; omega
  have hp := upC'
  refine callsIn_of_wp Try.func41 rfl h41 ?_ hro
  simp only [Try.ntmps41, List.size_toArray, List.length_cons, List.length_nil, Nat.reduceAdd, Nat.reduceSub, Array.replicate_succ, Array.replicate_zero, List.push_toArray, List.append_toArray, List.nil_append, List.cons_append]
  gi_wp2
  gi_loopw [4] (fun v wr => ∃ (k f : Nat) (pre : List (Sb n)), v = .int .i64 (k : Int) ∧ 1 ≤ k ∧ n + 1 ≤ f + k ∧ Hid (pre ++ hl n f k = hl n (n + 1) (i + 1)) ∧ Kq W wr ∧ J pre wr) (fun v _ => n + 1 - (intOf v).toNat)
  case atStart => exact ⟨i + 1, n + 1, [], by go_num, by omega, by omega, rfl, hKr W, h0⟩
  case round =>
    obtain ⟨k, f, pre, rfl, hk1, hkf, hall, hq, hJ⟩ := hrel
    obtain ⟨c1, c2, c3⟩ := hb wr hq
    by_cases hkn : k ≤ n
    · obtain ⟨f, rfl⟩ : ∃ g, f = g + 1 := ⟨f - 1, by omega⟩
      have hkk : 1 ≤ k ∧ k ≤ n := ⟨hk1, hkn⟩
      have HA := hide (show (pre ++ [⟨k, hkk⟩]) ++ hl n f (k + low k) = hl n (n + 1) (i + 1) by have := hall.out; rw [hl_at hkk] at this; simpa using this)
      have hlen : pre.length < n + 1 := by
        have h1 := congrArg List.length hall.out
        have h2 := hl_len n (n + 1) (i + 1) (by omega)
        rw [List.length_append, hl_at hkk] at h1
        simp only [List.length_cons] at h1
        rcases h2 with h2 | h2
        · omega
        · rw [h2] at h1; simp at h1
      obtain ⟨fn, tmps, assign, body, hy, hR⟩ := hY pre ⟨k, hkk⟩ wr hJ hlen
      unfold encB at hy
      have d0 : decide ((k : Int) ≤ (n : Int)) = true := by simp; omega
      have d0' : decide (k ≤ n) = true := by simp; omega
      have hand := bits_neg (k := k) (by omega) (by omega)
      have b2 : k ≤ 65536 := by omega
      have lb := low_bd k (by omega)
      have HL := hide lb
      have ws : IntKind.i64.wrap ((k : Int) + (low k : Int)) = ((k + low k : Nat) : Int) := by rw [IntKind.wrap_i64]; omega
      have HKF := hide (And.intro hkf hkk)
      obtain ⟨q, hqq⟩ : ∃ q, q = low k := ⟨_, rfl⟩
      have HQ := hide hqq
      rw [← hqq] at hand ws HL HA lb
      obtain ⟨l1, l2⟩ := lb
      obtain ⟨t, htt⟩ : ∃ t, t = k + q := ⟨_, rfl⟩
      have HT := hide htt
      rw [← htt] at ws HA
      have es : (k : Int) + (q : Int) = (t : Int) := by omega
      clear hall hlen hkf hqq htt
      gi_wp2
      refine hR.mono ?_
      rintro e W3 (⟨rfl, hJ3, hk3⟩ | ⟨rfl, hJx3⟩)
      · gi_wp2
        go_roundw
        case rel => exact ⟨t, f, pre ++ [⟨k, hkk⟩], rfl, by have := HT.out; omega, by have := HT.out; have := HKF.out; have := HL.out; omega, HA, hKt hq hk3, hJ3⟩
        case measure => have := HT.out; have := HL.out; have := HKF.out; simp [intOf]; omega
      · gi_wp2
        refine bodyPost_ret (results_none rfl _ _ _) rfl ?_
        exact ⟨⟨_, rfl⟩, .inr ⟨_, trivial, hJx3⟩⟩
    · have d0 : decide ((k : Int) ≤ (n : Int)) = false := by simp; omega
      have d0' : decide (k ≤ n) = false := by simp; omega
      have HP := hide (show pre = hl n (n + 1) (i + 1) by have := hall.out; rw [hl_end (by omega), List.append_nil] at this; exact this)
      clear hall hkn
      gi_wp2
      go_end0
      exact ⟨⟨_, rfl⟩, .inl ⟨pre, HP.out, hJ⟩⟩
theorem holders_in (F : Fence) (n : Nat) (hF : F.fn 35) (hro : F.round = none) (b : Addr) (z : Int) (w : World) :
    CallsIn F n Try.prog 35 #[.pointer (some b), .int .i64 z] w fun e w' => e = .returned (.func (.func 41) #[] #[.pointer (some ⟨w.heap.size + 1, 0, none⟩), .pointer (some ⟨w.heap.size, 0, none⟩)]) ∧ w' = (w.alloc (.cells #[.pointer (some b)] 24)).alloc (.cells #[.int .i64 z] 3) := by
  refine callsIn_of_wp Try.func35 rfl hF ?_ hro
  simp only [Try.ntmps35, List.size_toArray, List.length_cons, List.length_nil, Nat.reduceAdd, Nat.reduceSub, Array.replicate_succ, Array.replicate_zero, List.push_toArray, List.append_toArray, List.nil_append, List.cons_append]
  gi_wp2
  go_ret
  exact ⟨rfl, rfl⟩
/-- the sums with d added for each of a list -/
def addL {n : Nat} (d : Int) (T : Nat → Int) (l : List (Sb n)) : Nat → Int := l.foldl (fun T x j => if j = x.1 then IntKind.i64.wrap (T j + d) else T j) T
theorem addL_snoc {n : Nat} (d : Int) (T : Nat → Int) (l : List (Sb n)) (x : Sb n) : addL d T (l ++ [x]) = fun j => if j = x.1 then IntKind.i64.wrap (addL d T l j + d) else addL d T l j := by
  unfold addL; rw [List.foldl_append]; rfl
theorem addL_cons {n : Nat} (d : Int) (T : Nat → Int) (l : List (Sb n)) (x : Sb n) : addL d T (x :: l) = addL d (fun j => if j = x.1 then IntKind.i64.wrap (T j + d) else T j) l := rfl
/-- what the holders hold in the end -/
theorem addL_hl {n i : Nat} {C : Nat → Int} {d : Int} (hfit : ∀ j, j ≤ n → I64 (tr (updC C i (C i + d)) j)) : ∀ (f k : Nat) (T : Nat → Int), covers k i → n + 1 ≤ f + k → (∀ j, T j = trK C i d k j) → ∀ j, j ≤ n → addL d T (hl n f k) j = tr (updC C i (C i + d)) j := by
  intro f
  induction f with
  | zero =>
    intro k T hc hf hT j hj
    show T j = _
    rw [hT j]
    exact trK_end C i d (by omega)
  | succ f ih =>
    intro k T hc hf hT j hj
    have hk1 : 1 ≤ k := by have := hc.2; omega
    by_cases hkn : k ≤ n
    · rw [hl_at ⟨hk1, hkn⟩, addL_cons]
      refine ih (k + low k) _ (covers_step hc) (by have := low_bd k (by omega); omega) (fun j => ?_) j hj
      rw [trK_next C d hc j]
      show (if j = k then IntKind.i64.wrap (T j + d) else T j) = _
      by_cases e : j = k
      · subst e
        rw [if_pos rfl, if_pos rfl, hT j, trK_at]
        have h1 := hfit j hkn
        rw [tr_upd, if_pos ⟨hc.1, hc.2⟩] at h1
        unfold I64 at h1
        rw [IntKind.wrap_i64]; omega
      · rw [if_neg e, if_neg e]; exact hT j
    · rw [hl_end (by omega)]
      show T j = _
      rw [hT j]
      exact trK_end C i d (by omega)
end Go.Proofs.Ytgcnccfmfnifbaa
