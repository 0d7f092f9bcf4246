/- The specification's New and Next; the two arenas agree. -/
import Derived.Test.YtflblojmjdlhiaaRF
set_option linter.unusedVariables false
set_option linter.unusedSimpArgs false
namespace Go.Proofs.Ytflblojmjdlhiaa
open Go.RowKit

theorem info48 : (Try.prog.info? 48).map (fun i => (i.zero, i.size, i.bytes)) = some (some (.int .u64 0), 1, 8) := by kernel_rfl
theorem build68 (n : Int) (p q : Option Addr) (l c l2 c2 : Nat) (w : World) : (Instr.build 68 #[(0, .bool true), (1, .int .i64 n), (2, .slice p l c), (3, .slice q l2 c2)]).run Try.prog w = .ok (.agg #[.bool true, .int .i64 n, .slice p l c, .slice q l2 c2, .slice none 0 0]) w := by kernel_rfl
theorem cnts_new (n m : Nat) : cnts ⟨n, [], []⟩ m = List.replicate m (.int .u64 0) := by
  apply List.ext_getElem
  · simp [cnts]
  · intro i h1 h2
    simp [cnts, Ar.times]
theorem row_new {B e : Nat} {w : World} {x n : Nat} {z : Value} (hx : w.heap[x]? = some (.cells (madeCells #[z] n) e (0, 0))) (hb : B ≤ x) (hn : n ≤ 65536) : w.ownsRow B e 1 (.slice (some ⟨x, 0, none⟩) n n) n (List.replicate n z) := by
  have hl := toList_madeCells_one z n
  have hs : (madeCells #[z] n).size = n := by rw [← Array.length_toList, hl]; simp
  refine ⟨by simp, .inr ⟨x, n, madeCells #[z] n, rfl, hb, hx, Nat.le_refl _, by unfold maxLen; omega, by rw [hs]; omega, ?_⟩⟩
  rw [hl, Nat.mul_one]
  exact List.take_of_length_le (by simp)
theorem rat_new {B : Nat} {w : World} {r x y n : Nat} (h0 : w.heap[r]? = some (.cells #[.bool true, .int .i64 (n : Int), .slice (some ⟨x, 0, none⟩) n n, .slice (some ⟨y, 0, none⟩) n n, .slice none 0 0] 68 (0, 0)))
    (hx : w.heap[x]? = some (.cells (madeCells #[.bool false] n) 4 (0, 0))) (hy : w.heap[y]? = some (.cells (madeCells #[.int .u64 0] n) 48 (0, 0))) (hn : n ≤ 65536) (b : B ≤ r ∧ B ≤ x ∧ B ≤ y) (d : r ≠ x ∧ r ≠ y ∧ x ≠ y) :
    RAt B w r [r, x, y] ⟨n, [], []⟩ := by
  refine ⟨_, _, _, ⟨h0, ?_, ?_, World.ownsRow_nil _ _ _ _, b.1, by simp [Value.ownBlock]; exact ⟨⟨d.1, d.2.1⟩, d.2.2⟩⟩, by simp [Value.ownBlock]⟩
  · rw [outs_new]; exact row_new hx b.2.1 hn
  · rw [cnts_new]; exact row_new hy b.2.2 hn

theorem three (w : World) (o1 o2 o3 : Obj) : (((w.alloc o1).alloc o2).alloc o3).drew.heap[w.heap.size]? = some o1 ∧ (((w.alloc o1).alloc o2).alloc o3).drew.heap[w.heap.size + 1]? = some o2 ∧ (((w.alloc o1).alloc o2).alloc o3).drew.heap[w.heap.size + 1 + 1]? = some o3 ∧ Kp [] w (((w.alloc o1).alloc o2).alloc o3).drew := by
  have s1 : (w.alloc o1).heap.size = w.heap.size + 1 := by simp
  have s2 : ((w.alloc o1).alloc o2).heap.size = w.heap.size + 1 + 1 := by simp
  have n1 := heap_alloc_new w o1
  have n2 := heap_alloc_new (w.alloc o1) o2
  have n3 := heap_alloc_new ((w.alloc o1).alloc o2) o3
  rw [s1] at n2
  rw [s2] at n3
  refine ⟨?_, ?_, n3, ?_⟩
  · show (((w.alloc o1).alloc o2).alloc o3).heap[w.heap.size]? = some o1
    rw [Below.heap_alloc _ _ _ (by omega), Below.heap_alloc _ _ _ (by omega)]
    exact n1
  · show (((w.alloc o1).alloc o2).alloc o3).heap[w.heap.size + 1]? = some o2
    rw [Below.heap_alloc _ _ _ (by omega)]
    exact n2
  · exact .of_below (((((Below.refl _ _).alloc (Nat.le_refl _) _).alloc (by omega) _).alloc (by omega) _).drew)
set_option maxRecDepth 100000 in
set_option maxHeartbeats 4000000 in
theorem rnew_ok (n : Nat) (h1 : n ≤ 65536) (w : World) :
    Calls Try.prog 13 #[.int .i64 (n : Int)] w fun e w' => ∃ r own, e = .returned (.tuple #[.pointer (some ⟨r, 0, none⟩), .int .i64 0]) ∧ RAt w.heap.size w' r own ⟨n, [], []⟩ ∧ Kp [] w w' := by
  have d0 : decide ((n : Int) < 0) = false := by simp
  have d1 : decide ((65536 : Int) < (n : Int)) = false := by simp; omega
  have m1 := run_make_row' (P := Try.prog) 65 4 (.bool false) 1 Try.underlying65 info4 rfl .i64 .i64 n (by omega) (by omega)
  have m2 := run_make_row' (P := Try.prog) 66 48 (.int .u64 0) 8 Try.underlying66 info48 rfl .i64 .i64 n (by omega) (by omega)
  have bb := fun p q l c l2 c2 w => build68 (n : Int) p q l c l2 c2 w
  have HN := hide h1
  clear h1
  go_enter Try.func13, Try.ntmps13
  go_wp2_with fail
  go_region
  · go_wp2_with fail
    go_ret2
    have T := three w (.cells (madeCells #[Value.bool false] n) 4) (.cells (madeCells #[Value.int .u64 0] n) 48) (.cells #[.bool true, .int .i64 (n : Int), .slice (some ⟨w.heap.size, 0, none⟩) n n, .slice (some ⟨w.heap.size + 1, 0, none⟩) n n, .slice none 0 0] 68)
    exact ⟨_, _, rfl, rat_new T.2.2.1 T.1 T.2.1 HN.out (by omega) (by omega), T.2.2.2⟩
  · go_wp2_with fail
    go_ret2
    have T := three w (.cells (madeCells #[Value.int .u64 0] n) 48) (.cells (madeCells #[Value.bool false] n) 4) (.cells #[.bool true, .int .i64 (n : Int), .slice (some ⟨w.heap.size + 1, 0, none⟩) n n, .slice (some ⟨w.heap.size, 0, none⟩) n n, .slice none 0 0] 68)
    exact ⟨_, _, rfl, rat_new T.2.2.1 T.2.1 T.1 HN.out (by omega) (by omega), T.2.2.2⟩
set_option maxHeartbeats 1000000 in
theorem rnew_no (n : Int) (h : n < 0 ∨ 65536 < n) (w : World) :
    Calls Try.prog 13 #[.int .i64 n] w fun e w' => e = .returned (.tuple #[.pointer none, .int .i64 2]) ∧ w' = w := by
  by_cases h0 : n < 0
  · have d0 : decide (n < 0) = true := by simp; omega
    clear h h0
    go_enter Try.func13, Try.ntmps13
    go_wp2_with fail
    go_ret2
    exact ⟨rfl, rfl⟩
  · have d0 : decide (n < 0) = false := by simp; omega
    have d1 : decide (65536 < n) = true := by simp; omega
    clear h h0
    go_enter Try.func13, Try.ntmps13
    go_wp2_with fail
    go_ret2
    exact ⟨rfl, rfl⟩
/-- no slot that was given out has the count 0 -/
def Ar.pos (A : Ar) : Prop := ∀ i, i < A.T.length → A.T.getD i 0 ≠ 0
set_option maxRecDepth 100000 in
set_option maxHeartbeats 4000000 in
theorem rnext_t {B : Nat} {w : World} {r : Nat} {own : List Nat} {A : Ar} (h : RAt B w r own A) (ok : A.ok) (ps : A.pos) :
    Calls Try.prog 31 #[.pointer (some ⟨r, 0, none⟩)] w fun e w' => e = .returned (nextV A) ∧ Kp [] w w' := by
  obtain ⟨vI, vC, vR, M, _⟩ := h
  obtain ⟨c0, c1, c2, c3, c4⟩ := M.c
  have v0 := rvalid_t r w c0
  obtain ⟨pR, cR, rfl⟩ := row_slice M.R
  rcases hf : A.fr with _ | ⟨i, rr⟩
  · have hl0 : A.fr.length = 0 := by rw [hf]; rfl
    rw [hl0] at c4
    obtain ⟨pC, cC, rfl⟩ := row_slice M.C
    have MC := hide M.C
    have HL := hide (And.intro ok.le ok.cap)
    have PS := hide ps
    have HF := hide hf
    clear M c0 c2 ok ps hf hl0
    go_enter Try.func31, Try.ntmps31
    go_wp2_with (go_at_call 40; refine v0.mono ?_; rintro e w' ⟨rfl, rfl⟩)
    go_loop [4] (fun i => ∃ k : Nat, i = .int .i64 (k : Int) ∧ Hid (k ≤ A.T.length)) (fun i => A.cap + 1 - (intOf i).toNat)
    case atStart => exact ⟨0, rfl, Nat.zero_le _⟩
    case round =>
      obtain ⟨k, rfl, hk⟩ := hrel
      by_cases hlt : k < A.cap
      · have dk : decide (k < A.cap) = true := by simpa using hlt
        obtain ⟨g, rfl, hc, _, _⟩ := row_cell MC.out hlt
        rw [cnts_get A hlt] at hc
        have wk : IntKind.i64.wrap ((k : Int) + 1) = (k : Int) + 1 := by have := HL.out; rw [IntKind.wrap_i64]; omega
        have HK := hide hlt
        by_cases hk2 : k < A.T.length
        · have ht : A.times (k : Int) ≠ 0 := by
            unfold Ar.times
            rw [if_pos (by omega)]
            exact PS.out k hk2
          generalize A.times (k : Int) = t at *
          have dt : (t == 0) = false := by simpa using ht
          have HK2 := hide hk2
          clear ht hk2
          go_wp2_with fail
          go_round
          case rel => exact ⟨k + 1, by go_num, by have := HK2.out; show k + 1 ≤ A.T.length; omega⟩
          case measure => have := HK.out; simp [intOf]; omega
        · have hke : k = A.T.length := by have := hk.out; omega
          have ht : A.times (k : Int) = 0 := by
            unfold Ar.times
            rw [if_neg (by omega)]
          rw [ht] at hc
          have en : nextV A = .tuple #[.int .i64 (k : Int), .bool true] := by
            unfold nextV Ar.next
            rw [HF.out, hke]
            simp [← hke, hlt]
          have EN := hide en
          clear ht hke hk2 en
          go_wp2_with fail
          go_ret2
          exact ⟨by rw [EN.out]; rfl, Kp.refl _ _⟩
      · have dk : decide (k < A.cap) = false := by simp; omega
        have en : nextV A = .tuple #[.int .i64 0, .bool false] := by
          have h1 := hk.out
          have h2 := HL.out
          unfold nextV Ar.next
          rw [HF.out]
          simp
          have : ¬ A.T.length < A.cap := by omega
          simp [this]
        have EN := hide en
        clear hlt en
        go_wp2_with fail
        go_ret2
        exact ⟨by rw [EN.out]; rfl, Kp.refl _ _⟩
  · have hl : A.fr.length = rr.length + 1 := by rw [hf]; rfl
    have hle : A.fr.length ≤ 65536 := by have := A.fr_le ok; have := ok.le; have := ok.cap; omega
    obtain ⟨g, hg, hc, _, _⟩ := row_cell M.R (k := rr.length) (by omega)
    have hx : (ints A.fr.reverse)[rr.length]? = some (.int .i64 (i : Int)) := by
      rw [hf]
      simp [ints]
    rw [hx] at hc
    have en : nextV A = .tuple #[.int .i64 (i : Int), .bool true] := by unfold nextV Ar.next; rw [hf]
    rw [hl] at c4 hle
    subst hg
    rw [en]
    have ww : IntKind.i64.wrap (((rr.length + 1 : Nat) : Int) - 1) = (rr.length : Int) := by rw [IntKind.wrap_i64]; omega
    obtain ⟨m, hm⟩ : ∃ m, m = rr.length + 1 := ⟨_, rfl⟩
    rw [← hm] at c4 ww
    have dm : decide (0 < m) = true := by simp; omega
    have hmr : rr.length < m := by omega
    generalize rr.length = k at *
    clear M c0 c1 c2 c3 ok ps hf hl hx en hle hm
    go_enter Try.func31, Try.ntmps31
    go_wp2_with (go_at_call 40; refine v0.mono ?_; rintro e w' ⟨rfl, rfl⟩)
    go_quiet (fail)
    go_wp2_with fail
    go_ret2
    exact ⟨rfl, Kp.drewN _ _ _⟩
theorem rnext_nil (w : World) :
    Calls Try.prog 31 #[.pointer none] w fun e w' => e = .returned (.tuple #[.int .i64 0, .bool false]) ∧ w = w' := by
  have v0 := rvalid_nil w
  go_enter Try.func31, Try.ntmps31
  go_wp2_with (go_at_call 40; refine v0.mono ?_; rintro e w' ⟨rfl, rfl⟩)
  go_ret2
  exact ⟨rfl, rfl⟩

/-- an arena and the specification's, in the same state, apart -/
structure Pr (w wr : World) (b r : Nat) (A : Ar) : Prop where
  ex : ∃ own own', At w.heap.size wr b own A ∧ RAt w.heap.size wr r own' A ∧ Below w.heap.size w wr ∧ (∀ x ∈ own, x ∉ own') ∧ A.pos
theorem Pr.below {w wr : World} {b r : Nat} {A : Ar} (h : Pr w wr b r A) : Below w.heap.size w wr := by
  obtain ⟨own, own', h1, h2, h3, _⟩ := h.ex
  exact h3
theorem Pr.keep {w wr w2 : World} {b r : Nat} {A : Ar} (h : Pr w wr b r A) (k : Kp [] wr w2) : Pr w w2 b r A := by
  obtain ⟨own, own', h1, h2, h3, h4, h5⟩ := h.ex
  exact ⟨own, own', h1.keep k (by simp), h2.keep k (by simp), h3.trans (k.below (by simp) h3.size), h4, h5⟩
theorem Pr.ok {w wr : World} {b r : Nat} {A : Ar} (h : Pr w wr b r A) : A.ok := by
  obtain ⟨own, own', h1, h2, h3, _⟩ := h.ex
  exact h1.ok
set_option maxRecDepth 100000 in
set_option maxHeartbeats 8000000 in
theorem agree_t {w wr : World} {b r : Nat} {A : Ar} (h : Pr w wr b r A) (i : Int) :
    Calls Try.prog 14 #[.pointer (some ⟨b, 0, none⟩), .pointer (some ⟨r, 0, none⟩), .int .i64 i] wr fun e w' => e = .returned (.bool true) ∧ Kp [] wr w' := by
  have c22 : ∀ w1, Pr w w1 b r A → Calls Try.prog 22 #[.pointer (some ⟨b, 0, none⟩)] w1 fun e w' => e = .returned (nextV A) ∧ Kp [] w1 w' := fun w1 h => by
    obtain ⟨own, own', h1, h2, h3, h4, h5⟩ := h.ex
    exact next_t h1
  have c31 : ∀ w1, Pr w w1 b r A → Calls Try.prog 31 #[.pointer (some ⟨r, 0, none⟩)] w1 fun e w' => e = .returned (nextV A) ∧ Kp [] w1 w' := fun w1 h => by
    obtain ⟨own, own', h1, h2, h3, h4, h5⟩ := h.ex
    exact rnext_t h2 h1.ok h5
  have c23 : ∀ w1, Pr w w1 b r A → Calls Try.prog 23 #[.pointer (some ⟨b, 0, none⟩), .int .i64 i] w1 fun e w' => e = .returned (.bool (A.used i)) ∧ w1 = w' := fun w1 h => by
    obtain ⟨own, own', h1, h2, h3, h4, h5⟩ := h.ex
    exact used_t h1 i
  have c32 : ∀ w1, Pr w w1 b r A → Calls Try.prog 32 #[.pointer (some ⟨r, 0, none⟩), .int .i64 i] w1 fun e w' => e = .returned (.bool (A.used i)) ∧ w1 = w' := fun w1 h => by
    obtain ⟨own, own', h1, h2, h3, h4, h5⟩ := h.ex
    exact rused_t h2 h1.ok i
  have c24 : ∀ w1, Pr w w1 b r A → Calls Try.prog 24 #[.pointer (some ⟨b, 0, none⟩), .int .i64 i] w1 fun e w' => e = .returned (.int .u64 (A.times i)) ∧ w1 = w' := fun w1 h => by
    obtain ⟨own, own', h1, h2, h3, h4, h5⟩ := h.ex
    exact times_t h1 i
  have c33 : ∀ w1, Pr w w1 b r A → Calls Try.prog 33 #[.pointer (some ⟨r, 0, none⟩), .int .i64 i] w1 fun e w' => e = .returned (.int .u64 (A.times i)) ∧ w1 = w' := fun w1 h => by
    obtain ⟨own, own', h1, h2, h3, h4, h5⟩ := h.ex
    exact rtimes_t h2 h1.ok i
  have c25 : ∀ w1, Pr w w1 b r A → Calls Try.prog 25 #[.pointer (some ⟨b, 0, none⟩)] w1 fun e w' => e = .returned (.int .i64 (A.len : Int)) ∧ w1 = w' := fun w1 h => by
    obtain ⟨own, own', h1, h2, h3, h4, h5⟩ := h.ex
    exact len_t h1
  have c34 : ∀ w1, Pr w w1 b r A → Calls Try.prog 34 #[.pointer (some ⟨r, 0, none⟩)] w1 fun e w' => e = .returned (.int .i64 (A.len : Int)) ∧ Kp [] w1 w' := fun w1 h => by
    obtain ⟨own, own', h1, h2, h3, h4, h5⟩ := h.ex
    exact rlen_t h2 h1.ok
  have c26 : ∀ w1, Pr w w1 b r A → Calls Try.prog 26 #[.pointer (some ⟨b, 0, none⟩)] w1 fun e w' => e = .returned (.int .i64 (A.cap : Int)) ∧ w1 = w' := fun w1 h => by
    obtain ⟨own, own', h1, h2, h3, h4, h5⟩ := h.ex
    exact cap_t h1
  have c35 : ∀ w1, Pr w w1 b r A → Calls Try.prog 35 #[.pointer (some ⟨r, 0, none⟩)] w1 fun e w' => e = .returned (.int .i64 (A.cap : Int)) ∧ w1 = w' := fun w1 h => by
    obtain ⟨own, own', h1, h2, h3, h4, h5⟩ := h.ex
    exact rcap_t h2
  have c27 : ∀ w1, Pr w w1 b r A → Calls Try.prog 27 #[.pointer (some ⟨b, 0, none⟩)] w1 fun e w' => ∃ p c, e = .returned (.slice p A.list.length c) ∧ w'.ownsRow w1.heap.size 3 1 (.slice p A.list.length c) A.list.length (ints A.list) ∧ Kp [] w1 w' := fun w1 h => by
    obtain ⟨own, own', h1, h2, h3, h4, h5⟩ := h.ex
    refine (list_t h1).mono ?_
    rintro e w' ⟨v, rfl, o, k⟩
    obtain ⟨p, c, rfl⟩ := row_slice o
    exact ⟨p, c, rfl, o, k⟩
  have c36 : ∀ w1, Pr w w1 b r A → Calls Try.prog 36 #[.pointer (some ⟨r, 0, none⟩)] w1 fun e w' => ∃ p c, e = .returned (.slice p A.list.length c) ∧ w'.ownsRow w1.heap.size 3 1 (.slice p A.list.length c) A.list.length (ints A.list) ∧ Kp [] w1 w' := fun w1 h => by
    obtain ⟨own, own', h1, h2, h3, h4, h5⟩ := h.ex
    refine (rlist_t h2 h1.ok).mono ?_
    rintro e w' ⟨v, rfl, o, k⟩
    obtain ⟨p, c, rfl⟩ := row_slice o
    exact ⟨p, c, rfl, o, k⟩
  have LL := hide (list_lt h.ok)
  obtain ⟨nx, nb, hnx⟩ := nextV_pair A
  rw [hnx] at c22 c31
  have H0 := hide h
  have C := hide (And.intro c22 (And.intro c31 (And.intro c23 (And.intro c32 (And.intro c24 (And.intro c33 (And.intro c25 (And.intro c34 (And.intro c26 (And.intro c35 (And.intro c27 c36)))))))))))
  clear c22 c31 c23 c32 c24 c33 c25 c34 c26 c35 c27 c36 hnx h
  go_enter Try.func14, Try.ntmps14
  go_wp2_with fail
  refine (C.out.1 _ H0.out).mono ?_
  rintro e w1 ⟨rfl, k1⟩
  have H1 := hide (H0.out.keep k1)
  have K1 := hide k1
  clear k1
  go_wp2_with fail
  refine (C.out.2.1 _ H1.out).mono ?_
  rintro e w2 ⟨rfl, k2⟩
  have H2 := hide (H1.out.keep k2)
  have K2 := hide (K1.out.trans k2 (by simp))
  clear k2
  generalize A.used i = us at *
  generalize A.times i = tm at *
  go_wp2_with (first | (go_at_call 23; refine (C.out.2.2.1 _ H2.out).mono ?_; rintro e w' ⟨rfl, rfl⟩) | (go_at_call 32; refine (C.out.2.2.2.1 _ H2.out).mono ?_; rintro e w' ⟨rfl, rfl⟩) | (go_at_call 24; refine (C.out.2.2.2.2.1 _ H2.out).mono ?_; rintro e w' ⟨rfl, rfl⟩) | (go_at_call 33; refine (C.out.2.2.2.2.2.1 _ H2.out).mono ?_; rintro e w' ⟨rfl, rfl⟩) | (go_at_call 25; refine (C.out.2.2.2.2.2.2.1 _ H2.out).mono ?_; rintro e w' ⟨rfl, rfl⟩) | (go_at_call 34; refine (C.out.2.2.2.2.2.2.2.1 _ H2.out).mono ?_; rintro e w3 ⟨rfl, k3⟩; have H3 := hide (H2.out.keep k3); have K3 := hide (K2.out.trans k3 (by simp)); clear k3) | (go_at_call 26; refine (C.out.2.2.2.2.2.2.2.2.1 _ H3.out).mono ?_; rintro e w' ⟨rfl, rfl⟩) | (go_at_call 35; refine (C.out.2.2.2.2.2.2.2.2.2.1 _ H3.out).mono ?_; rintro e w' ⟨rfl, rfl⟩) | (go_at_call 27; refine (C.out.2.2.2.2.2.2.2.2.2.2.1 _ H3.out).mono ?_; rintro e w4 ⟨p4, c4, rfl, o4, k4⟩; have H4 := hide (H3.out.keep k4); have K4 := hide (K3.out.trans k4 (by simp)); have O4 := hide o4; clear k4 o4) | (go_at_call 36; refine (C.out.2.2.2.2.2.2.2.2.2.2.2 _ H4.out).mono ?_; rintro e w5 ⟨p5, c5, rfl, o5, k5⟩; have K5 := hide (K4.out.trans k5 (by simp)); have O5 := hide o5; have O4' := hide (k5.row O4.out (by simp)); clear k5 o5) | (go_at_call 30; refine (same_t _ A.list _ _ p4 p5 c4 c5 O4'.out O5.out LL.out).mono ?_; rintro e w6 ⟨rfl, k6⟩; have K6 := hide (K5.out.trans k6 (by simp)); clear k6))
  go_ret
  exact ⟨by simp, K6.out⟩
end Go.Proofs.Ytflblojmjdlhiaa
