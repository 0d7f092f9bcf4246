/- Free and List, walked. -/
import Derived.Test.YtflblojmjdlhiaaD
set_option linter.unusedVariables false
set_option linter.unusedSimpArgs false
namespace Go.Proofs.Ytflblojmjdlhiaa
open Go.RowKit

theorem one_src (w : World) (x : Value) (t : TypeId) : ∀ (j : Nat) (u : Value), [x][j]? = some u → (w.alloc (.cells #[x] t)).cell? ((⟨w.heap.size, 0, none⟩ : Addr).add j) = some u := by
  intro j u hj
  rw [Addr.add_lit, Nat.zero_add, World.cell?_alloc_new]
  simpa using hj
theorem Kp.grown {o : List Nat} {w wr w' : World} {row : Option Nat} (h : Kp o w wr) (g : wr.grownBy w' row) (hr : ∀ k, row = some k → w.heap.size ≤ k) : Kp o w w' :=
  ⟨g.os.trans h.os, g.tape.trans h.tape, g.output.trans h.output, Nat.le_trans h.size g.size, fun k hk ho => (g.block k (by have := h.size; omega) (fun e => by have := hr k e.symm; omega)).trans (h.block k hk ho)⟩
theorem nodup_le : ∀ (n : Nat) (l : List Nat), l.Nodup → (∀ x ∈ l, x < n) → l.length ≤ n := by
  intro n
  induction n with
  | zero =>
    intro l _ h
    rcases l with _ | ⟨x, r⟩
    · simp
    · have := h x (by simp); omega
  | succ n ih =>
    intro l hd h
    by_cases hm : n ∈ l
    · have h1 := ih (l.erase n) (hd.erase n) fun x hx => by
        have := h x (List.mem_of_mem_erase hx)
        have : x ≠ n := fun e => by subst e; exact (hd.not_mem_erase) hx
        omega
      rw [List.length_erase_of_mem hm] at h1
      omega
    · have h1 := ih l hd fun x hx => by
        have := h x hx
        have : x ≠ n := fun e => hm (e ▸ hx)
        omega
      omega
theorem used_iff (A : Ar) (i : Nat) : A.used i = true ↔ i < A.T.length ∧ i ∉ A.fr := by
  unfold Ar.used
  simp
set_option maxRecDepth 100000 in
set_option maxHeartbeats 4000000 in
theorem free_ok {B : Nat} {w : World} {b : Nat} {own : List Nat} {A : Ar} (h : At B w b own A) (i : Nat) (hu : A.used i = true) :
    Calls Try.prog 18 #[.pointer (some ⟨b, 0, none⟩), .int .i64 (i : Int)] w fun e w' => e = .returned (.int .i64 0) ∧ Goes B w b own (A.free i) w' := by
  have ut := used_t h i
  rw [hu] at ut
  obtain ⟨hi0, hif⟩ := (used_iff A i).1 hu
  obtain ⟨v, nb, xs, len, begun, top, U, M, R, ok, hown⟩ := h
  obtain ⟨c0, c1, c2, c3, c4, c5⟩ := M.c
  obtain ⟨f0, f1, f2, f3, f4, f5⟩ := M.f
  have hb := R.beg
  have n1 := R.nb1
  have n2 := R.nb2
  have le := ok.le
  have cp := ok.cap
  have hi : i < begun := by omega
  obtain ⟨g, c, rfl, hgb, ⟨s0, s1, s2⟩, fr⟩ := slot_cells M (i := i) (by omega)
  rw [R.st i hi] at s0
  rw [R.un i hi] at s2
  have d1 : decide (A.cap ≤ i) = false := by simp; omega
  have d0 : decide ((i : Int) < 0) = false := by simp
  have hlen : 0 < len := by
    have h1 := R.len
    have h2 : (i :: A.fr).length ≤ A.T.length := nodup_le _ _ (List.nodup_cons.2 ⟨hif, ok.nd⟩) fun x hx => by
      simp at hx
      rcases hx with rfl | hx
      · exact hi0
      · exact ok.lt x hx
    simp at h2
    omega
  have ww : IntKind.i64.wrap ((len : Int) - 1) = (len : Int) - 1 := by have := R.len; rw [IntKind.wrap_i64]; omega
  have HM := hide M
  have HR := hide R
  have HO := hide ok
  have HN := hide (show i < nb * 64 ∧ nb ≤ 2000 by omega)
  have hgb' : ¬ b = g := Ne.symm hgb
  have hown2 := hide hown
  have HI := hide (And.intro hi (And.intro hif (And.intro hlen hi0)))
  have f3i := fr (3 * i)
  have f3k := fr (3 * i + 2)
  have v0 := valid_t b w c0
  have AT := hide c5
  clear M R ok hown hb n1 n2 le cp hi hif hlen hi0 fr c5 c0 c3 f0 f1 f3 f5 hu s1
  go_enter Try.func18, Try.ntmps18
  go_wp2_with (first | (go_at_call 37; refine v0.mono ?_; rintro e w' ⟨rfl, rfl⟩) | (go_at_call 23; refine ut.mono ?_; rintro e w' ⟨rfl, rfl⟩) | (go_at_call 39; refine (at_t b g i nb c _ AT.out HN.out.1 HN.out.2).mono ?_; rintro e w' ⟨rfl, rfl⟩))
  go_ret
  have M := HM.out
  obtain ⟨hi, hif, hlen, hi0⟩ := HI.out
  have e2 := blk_off M.blk hgb (3 * i) (.int .i64 2)
  have e3 := blk_off e2 hgb (3 * i + 2) (.int .i64 top)
  have e4 := heap_setCell_same _ _ 4 _ _ (.int .i64 (i : Int)) e3
  have e5 := heap_setCell_same _ _ 2 _ _ (.int .i64 ((len : Int) - 1)) e4
  have r2 := row_set M.own (3 * i) (.int .i64 2)
  have r3 := row_set r2 (3 * i + 2) (.int .i64 top)
  have r4 := row_off r3 hgb 4 (.int .i64 (i : Int))
  have r5 := row_off r4 hgb 2 (.int .i64 ((len : Int) - 1))
  have R := HR.out.free hi hif hlen
  have ho := hown2.out
  refine ⟨rfl, own, ⟨_, nb, _, len - 1, begun, (i : Int), _, ⟨?_, r5, M.ne, M.ge⟩, R, HO.out.free hi0 hif, ho⟩, fun k hk => .inl hk, ?_⟩
  · rw [e5]
    simp [Ar.free]
    omega
  · have m : b ∈ own := by rw [ho]; simp
    have mg : g ∈ own := by rw [ho]; simp [Value.ownBlock]
    exact ((((Kp.set (o := own) _ _ _ mg).trans (Kp.set (o := own) _ _ _ mg) (fun x hx => .inl hx)).trans (Kp.set (o := own) _ _ _ m) (fun x hx => .inl hx)).trans (Kp.set (o := own) _ _ _ m) (fun x hx => .inl hx))
set_option maxHeartbeats 1000000 in
theorem free_range {B : Nat} {w : World} {b : Nat} {own : List Nat} {A : Ar} (h : At B w b own A) (i : Int) (hr : i < 0 ∨ (A.cap : Int) ≤ i) :
    Calls Try.prog 18 #[.pointer (some ⟨b, 0, none⟩), .int .i64 i] w fun e w' => e = .returned (.int .i64 3) ∧ w = w' := by
  obtain ⟨v, nb, xs, len, begun, top, U, M, R, ok, hown⟩ := h
  obtain ⟨c0, c1, c2, c3, c4, c5⟩ := M.c
  have v0 := valid_t b w c0
  clear M R ok c5 c4 c3 c2 hown
  by_cases h0 : i < 0
  · have d0 : decide (i < 0) = true := by simp; omega
    clear hr h0
    go_enter Try.func18, Try.ntmps18
    go_wp2_with (go_at_call 37; refine v0.mono ?_; rintro e w' ⟨rfl, rfl⟩)
    go_ret
    exact ⟨rfl, rfl⟩
  · have d0 : decide (i < 0) = false := by simp; omega
    have d1 : decide ((A.cap : Int) ≤ i) = true := by simp; omega
    clear hr h0
    go_enter Try.func18, Try.ntmps18
    go_wp2_with (go_at_call 37; refine v0.mono ?_; rintro e w' ⟨rfl, rfl⟩)
    go_ret
    exact ⟨rfl, rfl⟩
set_option maxHeartbeats 1000000 in
theorem free_none {B : Nat} {w : World} {b : Nat} {own : List Nat} {A : Ar} (h : At B w b own A) (i : Int) (h0 : 0 ≤ i) (h1 : i < (A.cap : Int)) (hu : A.used i = false) :
    Calls Try.prog 18 #[.pointer (some ⟨b, 0, none⟩), .int .i64 i] w fun e w' => e = .returned (.int .i64 5) ∧ w = w' := by
  have ut := used_t h i
  rw [hu] at ut
  obtain ⟨v, nb, xs, len, begun, top, U, M, R, ok, hown⟩ := h
  obtain ⟨c0, c1, c2, c3, c4, c5⟩ := M.c
  have v0 := valid_t b w c0
  have d0 : decide (i < 0) = false := by simp; omega
  have d1 : decide ((A.cap : Int) ≤ i) = false := by simp; omega
  clear M R ok c5 c4 c3 c2 hown h0 h1 hu
  go_enter Try.func18, Try.ntmps18
  go_wp2_with (first | (go_at_call 37; refine v0.mono ?_; rintro e w' ⟨rfl, rfl⟩) | (go_at_call 23; refine ut.mono ?_; rintro e w' ⟨rfl, rfl⟩))
  go_ret
  exact ⟨rfl, rfl⟩
theorem free_f (p : Option Addr) (i : Int) (w : World) (h : p = none ∨ ∃ b, p = some ⟨b, 0, none⟩ ∧ w.cell? ⟨b, 0, none⟩ = some (.bool false)) :
    Calls Try.prog 18 #[.pointer p, .int .i64 i] w fun e w' => e = .returned (.int .i64 1) ∧ w = w' := by
  have ht := valid_f p w h
  go_enter Try.func18, Try.ntmps18
  go_wp2_with (go_at_call 37; refine ht.mono ?_; rintro e w' ⟨rfl, rfl⟩)
  go_ret
  exact ⟨rfl, rfl⟩
def Ar.freeE (A : Ar) (i : Int) : Int := if i < 0 ∨ (A.cap : Int) ≤ i then 3 else if A.used i then 0 else 5
def Ar.free' (A : Ar) (i : Int) : Ar := if A.used i then A.free i.toNat else A
/-- Free, whatever the slot -/
theorem free_t {B : Nat} {w : World} {b : Nat} {own : List Nat} {A : Ar} (h : At B w b own A) (i : Int) :
    Calls Try.prog 18 #[.pointer (some ⟨b, 0, none⟩), .int .i64 i] w fun e w' => e = .returned (.int .i64 (A.freeE i)) ∧ Goes B w b own (A.free' i) w' := by
  have le := h.ok.le
  by_cases h0 : i < 0 ∨ (A.cap : Int) ≤ i
  · have hu : A.used i = false := by
      have : decide (0 ≤ i ∧ i < (A.T.length : Int)) = false := by simp; omega
      unfold Ar.used; rw [this]; rfl
    unfold Ar.freeE Ar.free'
    rw [if_pos h0, hu]
    refine (free_range h i h0).mono ?_
    rintro e w' ⟨rfl, rfl⟩
    exact ⟨rfl, h.goes (Kp.refl _ _)⟩
  · unfold Ar.freeE Ar.free'
    rw [if_neg h0]
    cases hu : A.used i with
    | true =>
      obtain ⟨k, rfl⟩ : ∃ k : Nat, i = (k : Int) := ⟨i.toNat, by omega⟩
      exact free_ok h k hu
    | false =>
      refine (free_none h i (by omega) (by omega) hu).mono ?_
      rintro e w' ⟨rfl, rfl⟩
      exact ⟨rfl, h.goes (Kp.refl _ _)⟩

/-- the slots below n that are used -/
def Ar.upto (A : Ar) (n : Nat) : List Nat := (List.range n).filter fun i => A.used i
def Ar.list (A : Ar) : List Nat := A.upto A.T.length
theorem Ar.upto_succ (A : Ar) (n : Nat) : A.upto (n + 1) = A.upto n ++ (if A.used n then [n] else []) := by
  unfold Ar.upto
  rw [List.range_succ, List.filter_append]
  congr 1
  simp [List.filter_cons]
theorem Ar.upto_len (A : Ar) (n : Nat) : (A.upto n).length ≤ n := by
  have := List.length_filter_le (fun i : Nat => A.used i) (List.range n)
  unfold Ar.upto
  simpa using this
def ints (l : List Nat) : List Value := l.map fun i : Nat => Value.int .i64 (i : Int)

set_option maxRecDepth 100000 in
set_option maxHeartbeats 4000000 in
theorem list_t {B : Nat} {w : World} {b : Nat} {own : List Nat} {A : Ar} (h : At B w b own A) :
    Calls Try.prog 27 #[.pointer (some ⟨b, 0, none⟩)] w fun e w' => ∃ v, e = .returned v ∧ w'.ownsRow w.heap.size 3 1 v A.list.length (ints A.list) ∧ Kp [] w w' := by
  have H := hide h
  obtain ⟨v, nb, xs, len, begun, top, U, M, R, ok, hown⟩ := h
  obtain ⟨c0, c1, c2, c3, c4, c5⟩ := M.c
  have v0 := valid_t b w c0
  have HB := hide R.beg
  have HL := hide (show begun ≤ 65536 by have := R.beg; have := ok.le; have := ok.cap; omega)
  clear M R ok c5 c4 c2 hown c1 c0
  go_enter Try.func27, Try.ntmps27
  go_wp2_with (first | (go_at_call 37; refine v0.mono ?_; rintro e w' ⟨rfl, rfl⟩))
  go_loopw [3, 12] (fun l i wr => ∃ k : Nat, i = .int .i64 (k : Int) ∧ Hid (k ≤ begun) ∧ Hid (wr.ownsRow w.heap.size 3 1 l (A.upto k).length (ints (A.upto k))) ∧ Hid (Kp [] w wr)) (fun _ i _ => begun - (intOf i).toNat)
  case atStart =>
    exact ⟨0, rfl, Nat.zero_le _, World.ownsRow_nil _ _ _ _, Kp.refl _ _⟩
  case round =>
    obtain ⟨k, rfl, hk, hO, hK⟩ := hrel
    by_cases hlt : k < begun
    · have dk : decide ((k : Int) < (begun : Int)) = true := by simp; omega
      have AA := H.out.keep hK.out (by simp)
      have ut := used_t AA k
      have us := hide (A.upto_succ k)
      have bl := hide (A.upto_len k)
      have hlt2 := hide hlt
      have ww : IntKind.i64.wrap ((k : Int) + 1) = (k : Int) + 1 := by have := HL.out; rw [IntKind.wrap_i64]; omega
      clear AA hlt v0
      cases hu : A.used k with
      | true =>
        rw [hu] at ut
        have HU := hide hu
        clear hu
        obtain ⟨i0, hi, hz0, hz1, hz2⟩ := info_parts info3
        have HI := hide (And.intro hi (And.intro hz0 (And.intro hz1 hz2)))
        clear hi hz0 hz1 hz2
        go_wp2_with (first | (go_at_call 23; refine ut.mono ?_; rintro e w' ⟨rfl, rfl⟩) | (at_builtin; refine wpList_append_own _ rfl _ _ 51 rfl w.heap.size 3 i0 (.int .i64 0) 1 8 Try.underlying51 HI.out.1 HI.out.2.1 HI.out.2.2.1 HI.out.2.2.2 rfl (by decide) u3 (A.upto k).length (ints (A.upto k)) rfl (hO.out.alloc _) ⟨wr.heap.size, 0, none⟩ 1 1 [.int .i64 (k : Int)] rfl rfl (one_src wr _ 3) (by simp [Value.oneCell']) (by have := bl.out; have := HL.out; have := hlt2.out; unfold maxLen; omega) (by have := bl.out; have := HL.out; have := hlt2.out; omega) (by have := hK.out.size; simp; omega) ?_))
        intro v' w' ho hg hn
        have HO := hide ho
        have HK : Hid (Kp [] w w') := ((hK.out.trans (Kp.of_below ((Below.refl _ _).alloc (Nat.le_refl _) _) : Kp [] wr _) (by simp)).grown hg (fun x hx => (hO.out.lt x hx).1))
        clear ho hg hn ut
        go_wp2_with fail
        go_roundw
        case rel =>
          refine ⟨k + 1, by go_num, by have := hlt2.out; show k + 1 ≤ begun; omega, ?_, HK⟩
          show w'.ownsRow _ _ _ _ _ _
          rw [us.out, if_pos HU.out, List.length_append]
          unfold ints
          rw [List.map_append]
          exact HO.out
        case measure => have := hlt2.out; simp [intOf]; omega
      | false =>
        rw [hu] at ut
        have HU := hide hu
        clear hu
        go_wp2_with (first | (go_at_call 23; refine ut.mono ?_; rintro e w' ⟨rfl, rfl⟩))
        go_roundw
        case rel =>
          refine ⟨k + 1, by go_num, by have := hlt2.out; show k + 1 ≤ begun; omega, ?_, hK⟩
          show wr.ownsRow _ _ _ _ _ _
          rw [us.out, HU.out]
          simp only [Bool.false_eq_true, if_false, List.append_nil]
          exact hO.out
        case measure => have := hlt2.out; simp [intOf]; omega
    · have dk : decide ((k : Int) < (begun : Int)) = false := by simp; omega
      have he : k = begun := by have := hk.out; omega
      go_wp2_with fail
      go_ret
      have ho := hO.out
      rw [he, HB.out] at ho
      exact ⟨_, rfl, ho, hK.out⟩
end Go.Proofs.Ytflblojmjdlhiaa
