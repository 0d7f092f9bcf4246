/- An arena beside other memory; the small example. -/
import Derived.Test.YtflblojmjdlhiaaE
set_option linter.unusedVariables false
set_option linter.unusedSimpArgs false
namespace Go.Proofs.Ytflblojmjdlhiaa
open Go.RowKit

/-- these blocks are as they were -/
structure Same (O : List Nat) (w w' : World) : Prop where
  size : w.heap.size ≤ w'.heap.size
  eq : ∀ k ∈ O, w'.heap[k]? = w.heap[k]?
theorem Same.refl (O : List Nat) (w : World) : Same O w w := ⟨Nat.le_refl _, fun _ _ => rfl⟩
/-- since w0 nothing below B has changed; the arena A lies at b, apart from the blocks O -/
def Has (B : Nat) (w0 w : World) (b : Nat) (A : Ar) (O : List Nat) : Prop := ∃ own, At B w b own A ∧ Below B w0 w ∧ ∀ x ∈ own, x ∉ O
theorem Has.ok {B : Nat} {w0 w : World} {b : Nat} {A : Ar} {O : List Nat} (h : Has B w0 w b A O) : A.ok := by obtain ⟨own, h, _⟩ := h; exact h.ok
theorem Has.below {B : Nat} {w0 w : World} {b : Nat} {A : Ar} {O : List Nat} (h : Has B w0 w b A O) : Below B w0 w := by obtain ⟨own, h, b, _⟩ := h; exact b
theorem Has.step {B : Nat} {w0 w w' : World} {b : Nat} {A : Ar} {O : List Nat} (h : Has B w0 w b A O) (hO : ∀ x ∈ O, x < w.heap.size) (k : Kp [] w w') : Has B w0 w' b A O ∧ Same O w w' := by
  obtain ⟨own, h, bl, d⟩ := h
  refine ⟨⟨own, h.keep k (by simp), ?_, d⟩, k.size, fun x hx => k.block x (hO x hx) (by simp)⟩
  exact bl.trans (k.below (by simp) (by have := h.lt b h.mem; omega))
theorem Has.goes {B : Nat} {w0 w w' : World} {b : Nat} {A A' : Ar} {own O : List Nat} (h : At B w b own A) (bl : Below B w0 w) (d : ∀ x ∈ own, x ∉ O) (hO : ∀ x ∈ O, x < w.heap.size) (g : Goes B w b own A' w') : Has B w0 w' b A' O ∧ Same O w w' := by
  obtain ⟨own', h', hs, k⟩ := g
  refine ⟨⟨own', h', bl.trans (k.below (fun x hx => (h.lt x hx).1) (by have := h.lt b h.mem; omega)), fun x hx hxO => ?_⟩, k.size, fun x hx => k.block x (hO x hx) (fun hm => d x hm hx)⟩
  rcases hs x hx with h1 | h1
  · exact d x h1 hxO
  · have := hO x hxO; omega
/-- other memory is written -/
theorem Has.other {B : Nat} {w0 w w' : World} {b : Nat} {A : Ar} {O o : List Nat} (h : Has B w0 w b A O) (k : Kp o w w') (s : ∀ x ∈ o, x ∈ O) (g : ∀ x ∈ O, B ≤ x) : Has B w0 w' b A O := by
  obtain ⟨own, h, bl, d⟩ := h
  exact ⟨own, h.keep k (fun x hx ho => d x hx (s x ho)), bl.trans (k.below (fun x hx => g x (s x hx)) (by have := h.lt b h.mem; omega)), d⟩
/-- other memory is named anew: what is new lies behind -/
theorem Has.names {B : Nat} {w0 w w' : World} {b : Nat} {A : Ar} {O O' : List Nat} (h : Has B w0 w b A O) (k : Kp [] w w') (s : ∀ x ∈ O', x ∈ O ∨ w.heap.size ≤ x) : Has B w0 w' b A O' := by
  obtain ⟨own, h, bl, d⟩ := h
  refine ⟨own, h.keep k (by simp), bl.trans (k.below (by simp) (by have := h.lt b h.mem; omega)), fun x hx hx' => ?_⟩
  rcases s x hx' with h1 | h1
  · exact d x hx h1
  · have := h.lt x hx; omega
theorem Has.sub {B : Nat} {w0 w : World} {b : Nat} {A : Ar} {O O' : List Nat} (h : Has B w0 w b A O) (s : ∀ x ∈ O', x ∈ O) : Has B w0 w b A O' := by
  obtain ⟨own, h, bl, d⟩ := h
  exact ⟨own, h, bl, fun x hx ho => d x hx (s x ho)⟩

section
variable {B : Nat} {w0 w : World} {b : Nat} {A : Ar} {O : List Nat}
theorem h_new (n : Nat) (h1 : n ≤ 65536) (hB : B ≤ w.heap.size) (bl : Below B w0 w) (hO : ∀ x ∈ O, x < w.heap.size) :
    Calls Try.prog 12 #[.int .i64 (n : Int)] w fun e w' => ∃ b, e = .returned (.tuple #[.pointer (some ⟨b, 0, none⟩), .int .i64 0]) ∧ Has B w0 w' b ⟨n, [], []⟩ O ∧ Same O w w' := by
  refine (new_at n h1 w hB).mono ?_
  rintro e w' ⟨rfl, h, k⟩
  exact ⟨_, rfl, ⟨_, h, bl.trans (k.below (by simp) hB), fun x hx hxO => by have := hO x hxO; simp at hx; omega⟩, k.size, fun x hx => k.block x (hO x hx) (by simp)⟩
theorem h_alloc (h : Has B w0 w b A O) (hO : ∀ x ∈ O, x < w.heap.size) (V : Value) (A' : Ar) (e1 : allocV A = V) (e2 : A.alloc' = A') :
    Calls Try.prog 16 #[.pointer (some ⟨b, 0, none⟩)] w fun e w' => e = .returned V ∧ Has B w0 w' b A' O ∧ Same O w w' := by
  obtain ⟨own, h, bl, d⟩ := h
  refine (alloc_t h).mono ?_
  rintro e w' ⟨rfl, g⟩
  rw [e1]; rw [e2] at g
  exact ⟨rfl, Has.goes h bl d hO g⟩
theorem h_free (h : Has B w0 w b A O) (hO : ∀ x ∈ O, x < w.heap.size) (i : Int) (V : Int) (A' : Ar) (e1 : A.freeE i = V) (e2 : A.free' i = A') :
    Calls Try.prog 18 #[.pointer (some ⟨b, 0, none⟩), .int .i64 i] w fun e w' => e = .returned (.int .i64 V) ∧ Has B w0 w' b A' O ∧ Same O w w' := by
  obtain ⟨own, h, bl, d⟩ := h
  refine (free_t h i).mono ?_
  rintro e w' ⟨rfl, g⟩
  rw [e1]; rw [e2] at g
  exact ⟨rfl, Has.goes h bl d hO g⟩
theorem h_next (h : Has B w0 w b A O) (hO : ∀ x ∈ O, x < w.heap.size) (V : Value) (e1 : nextV A = V) :
    Calls Try.prog 22 #[.pointer (some ⟨b, 0, none⟩)] w fun e w' => e = .returned V ∧ Has B w0 w' b A O ∧ Same O w w' := by
  obtain ⟨own, h1, _⟩ := id h
  refine (next_t h1).mono ?_
  rintro e w' ⟨rfl, k⟩
  rw [e1]
  exact ⟨rfl, h.step hO k⟩
theorem h_times (h : Has B w0 w b A O) (i : Int) (V : Int) (e1 : A.times i = V) :
    Calls Try.prog 24 #[.pointer (some ⟨b, 0, none⟩), .int .i64 i] w fun e w' => e = .returned (.int .u64 V) ∧ w = w' := by
  obtain ⟨own, h1, _⟩ := h
  rw [← e1]; exact times_t h1 i
theorem h_used (h : Has B w0 w b A O) (i : Int) (V : Bool) (e1 : A.used i = V) :
    Calls Try.prog 23 #[.pointer (some ⟨b, 0, none⟩), .int .i64 i] w fun e w' => e = .returned (.bool V) ∧ w = w' := by
  obtain ⟨own, h1, _⟩ := h
  rw [← e1]; exact used_t h1 i
theorem h_len (h : Has B w0 w b A O) (V : Int) (e1 : (A.len : Int) = V) :
    Calls Try.prog 25 #[.pointer (some ⟨b, 0, none⟩)] w fun e w' => e = .returned (.int .i64 V) ∧ w = w' := by
  obtain ⟨own, h1, _⟩ := h
  rw [← e1]; exact len_t h1
theorem h_cap (h : Has B w0 w b A O) (V : Int) (e1 : (A.cap : Int) = V) :
    Calls Try.prog 26 #[.pointer (some ⟨b, 0, none⟩)] w fun e w' => e = .returned (.int .i64 V) ∧ w = w' := by
  obtain ⟨own, h1, _⟩ := h
  rw [← e1]; exact cap_t h1
/-- List makes a slice of its own -/
theorem h_list (h : Has B w0 w b A O) (hO : ∀ x ∈ O, x < w.heap.size) (l : List Nat) (e1 : A.list = l) :
    Calls Try.prog 27 #[.pointer (some ⟨b, 0, none⟩)] w fun e w' => ∃ p c, e = .returned (.slice p l.length c) ∧ w'.ownsRow w.heap.size 3 1 (.slice p l.length c) l.length (ints l) ∧ Has B w0 w' b A ((Value.slice p l.length c).ownBlock.toList ++ O) ∧ Same O w w' := by
  obtain ⟨own, h1, h2, h3⟩ := id h
  refine (list_t h1).mono ?_
  rintro e w' ⟨v, rfl, ho, k⟩
  rw [e1] at ho
  obtain ⟨p, c, rfl⟩ : ∃ p c, v = .slice p l.length c := by
    rcases ho.2 with ⟨rfl, h0⟩ | ⟨g, c, cur, rfl, _⟩
    · rw [h0]; exact ⟨_, _, rfl⟩
    · exact ⟨_, _, rfl⟩
  refine ⟨p, c, rfl, ho, h.names k (fun x hx => ?_), k.size, fun x hx => k.block x (hO x hx) (by simp)⟩
  rw [List.mem_append] at hx
  rcases hx with hx | hx
  · simp at hx
    exact .inr (ho.lt x hx).1
  · exact .inl hx
end

set_option maxRecDepth 100000 in
set_option maxHeartbeats 4000000 in
theorem works (w : World) : Calls Try.prog 15 #[] w fun e w' => e = .returned (.bool true) ∧ Below w.heap.size w w' := by
  go_enter Try.func15, Try.ntmps15
  go_wp2_with fail
  refine (h_new (O := []) 3 (by omega) (Nat.le_refl _) (Below.refl _ _) (by simp)).mono ?_
  rintro e w1 ⟨b, rfl, h1, _⟩
  have H1 := hide h1
  clear h1
  go_wp2_with fail
  refine (h_alloc H1.out (by simp) (.tuple #[.int .i64 0, .int .i64 0]) ⟨3, [1], []⟩ rfl rfl).mono ?_
  rintro e w2 ⟨rfl, h1, _⟩
  have H2 := hide h1
  clear h1 H1
  go_wp2_with fail
  refine (h_alloc H2.out (by simp) (.tuple #[.int .i64 1, .int .i64 0]) ⟨3, [1, 1], []⟩ rfl rfl).mono ?_
  rintro e w3 ⟨rfl, h1, _⟩
  have H3 := hide h1
  clear h1 H2
  go_wp2_with fail
  refine (h_free H3.out (by simp) 0 0 ⟨3, [1, 1], [0]⟩ (by decide) rfl).mono ?_
  rintro e w4 ⟨rfl, h1, _⟩
  have H4 := hide h1
  clear h1 H3
  go_wp2_with fail
  refine (h_next H4.out (by simp) (.tuple #[.int .i64 0, .bool true]) rfl).mono ?_
  rintro e w5 ⟨rfl, h1, _⟩
  have H5 := hide h1
  clear h1 H4
  go_wp2_with fail
  refine (h_free H5.out (by simp) 0 5 ⟨3, [1, 1], [0]⟩ (by decide) rfl).mono ?_
  rintro e w6 ⟨rfl, h1, _⟩
  have H6 := hide h1
  clear h1 H5
  go_wp2_with fail
  refine (h_times H6.out 1 1 rfl).mono ?_
  rintro e w7 ⟨rfl, rfl⟩
  go_wp2_with fail
  go_ret
  exact ⟨by simp, H6.out.below⟩
end Go.Proofs.Ytflblojmjdlhiaa
