/- Alloc and Free, walked. -/
import Derived.Test.YtflblojmjdlhiaaC
set_option linter.unusedVariables false
set_option linter.unusedSimpArgs false
namespace Go.Proofs.Ytflblojmjdlhiaa
open Go.RowKit

/-- three cells of a slot's block are written -/
theorem row_set {w : World} {B g nb c : Nat} {xs : List Value} (h : w.ownsRow B 75 192 (.slice (some ⟨g, 0, none⟩) nb c) nb xs) (j : Nat) (u : Value) : (w.setCell ⟨g, j, none⟩ u).ownsRow B 75 192 (.slice (some ⟨g, 0, none⟩) nb c) nb (xs.set j u) := (h.stored j u).1
theorem row_off {w : World} {B g nb c b : Nat} {xs : List Value} (h : w.ownsRow B 75 192 (.slice (some ⟨g, 0, none⟩) nb c) nb xs) (n : g ≠ b) (j : Nat) (u : Value) : (w.setCell ⟨b, j, none⟩ u).ownsRow B 75 192 (.slice (some ⟨g, 0, none⟩) nb c) nb xs :=
  (Kp.set w ⟨b, j, none⟩ u (o := [b]) (by simp)).row h fun k hk => by simp [Value.ownBlock] at hk; subst hk; simpa using n
theorem blk_off {w : World} {g b : Nat} {x : Obj} (h : w.heap[b]? = some x) (n : g ≠ b) (j : Nat) (u : Value) : (w.setCell ⟨g, j, none⟩ u).heap[b]? = some x := by
  rw [heap_setCell_other _ _ _ _ (by simpa using Ne.symm n)]; exact h

theorem cell_far {w : World} {a b : Addr} {v : Value} (h : a ≠ b) : (w.setCell b v).cell? a = w.cell? a := World.cell?_setCell_other _ _ _ _ (Ne.symm h)
def allocV (A : Ar) : Value := match A.next with
  | some i => .tuple #[.int .i64 (i : Int), .int .i64 0]
  | none => .tuple #[.int .i64 0, .int .i64 4]
def Ar.alloc' (A : Ar) : Ar := match A.next with
  | some _ => A.alloc
  | none => A
/-- what a call leaves: the arena A in blocks that it owned or made -/
def Goes (B : Nat) (w : World) (b : Nat) (own : List Nat) (A : Ar) (w' : World) : Prop :=
  ∃ own', At B w' b own' A ∧ (∀ k ∈ own', k ∈ own ∨ w.heap.size ≤ k) ∧ Kp own w w'

set_option maxRecDepth 100000 in
set_option maxHeartbeats 4000000 in
theorem alloc_pop {B : Nat} {w : World} {b : Nat} {own : List Nat} {A : Ar} (h : At B w b own A) {i : Nat} {r : List Nat} (hf : A.fr = i :: r) :
    Calls Try.prog 16 #[.pointer (some ⟨b, 0, none⟩)] w fun e w' => e = .returned (.tuple #[.int .i64 (i : Int), .int .i64 0]) ∧ Goes B w b own A.alloc w' := by
  have hn : nextV A = .tuple #[.int .i64 (i : Int), .bool true] := by unfold nextV Ar.next; rw [hf]
  have nx := fun (w1 : World) (h1 : At B w1 b own A) => next_t h1
  rw [hn] at nx
  have v0 := fun (w1 : World) (h1 : At B w1 b own A) => valid_t b w1 (by obtain ⟨v, nb, xs, len, begun, top, U, M, R, ok, rfl⟩ := h1; exact M.c.1)
  have H := hide h
  clear h hn
  go_enter Try.func16, Try.ntmps16
  go_wp2_with (go_at_call 37; refine (v0 _ H.out).mono ?_; rintro e w' ⟨rfl, rfl⟩)
  refine (nx _ H.out).mono ?_
  rintro e w1 ⟨rfl, k1⟩
  have h1 := H.out.keep k1 (by simp)
  have K1 := hide k1
  clear nx v0 k1
  obtain ⟨v, nb, xs, len, begun, top, U, M, R, ok, hown⟩ := h1
  obtain ⟨c0, c1, c2, c3, c4, c5⟩ := M.c
  obtain ⟨f0, f1, f2, f3, f4, f5⟩ := M.f
  have hb := R.beg
  have n1 := R.nb1
  have n2 := R.nb2
  have le := ok.le
  have cp := ok.cap
  have hi : i < begun := by rw [hb]; exact ok.lt i (by rw [hf]; simp)
  obtain ⟨g, c, rfl, hgb, ⟨s0, s1, s2⟩, fr⟩ := slot_cells M (i := i) (by omega)
  rw [R.st i hi] at s0
  rw [R.tm i hi] at s1
  rw [R.un i hi] at s2
  have at1 := at_t b g i nb c w1 c5 (by omega) (by omega)
  have d1 : ((i : Int) == (begun : Int)) = false := by simp; omega
  have ww : IntKind.i64.wrap ((len : Int) + 1) = (len : Int) + 1 := by have := R.len; rw [IntKind.wrap_i64]; omega
  have HM := hide M
  have HR := hide R
  have HO := hide ok
  have hl := hide (show len + 1 ≤ 65536 by have := R.len; rw [hf] at this; simp at this; omega)
  have HN := hide (show i < nb * 64 ∧ nb ≤ 2000 by omega)
  have hgb' : ¬ b = g := Ne.symm hgb
  have hown2 := hide hown
  have HF := hide hf
  have f3i := fr (3 * i)
  have f3j := fr (3 * i + 1)
  have z0 : (if i ∈ A.fr then (2 : Int) else 1) = 2 := if_pos (by rw [hf]; simp)
  rw [z0] at s0
  generalize hT : A.T.getD i 0 = t at *
  have HT := hide hT
  generalize hU : U i = u at *
  have HU := hide hU
  have AT := hide c5
  clear M R ok hown hb n1 n2 le cp hi hT hU hf z0 fr c5 c0 c1 f0 f1 f3 f5
  go_wp2_with (go_at_call 39; refine (at_t b g i nb c _ (by first | exact AT.out | (rw [cell_far (by simp)]; exact AT.out)) HN.out.1 HN.out.2).mono ?_; rintro e w' ⟨rfl, rfl⟩)
  go_ret2
  have M := HM.out
  have e1 := heap_setCell_same _ _ 4 _ _ (.int .i64 u) M.blk
  have e2 := blk_off e1 hgb (3 * i) (.int .i64 1)
  have e3 := blk_off e2 hgb (3 * i + 1) (.int .u64 (IntKind.u64.wrap (t + 1)))
  have e4 := heap_setCell_same _ _ 2 _ _ (.int .i64 ((len : Int) + 1)) e3
  have r1 := row_off M.own hgb 4 (.int .i64 u)
  have r2 := row_set r1 (3 * i) (.int .i64 1)
  have r3 := row_set r2 (3 * i + 1) (.int .u64 (IntKind.u64.wrap (t + 1)))
  have r4 := row_off r3 hgb 2 (.int .i64 ((len : Int) + 1))
  have R := HR.out.pop HO.out HF.out
  rw [HT.out, HU.out] at R
  have hA : A.alloc.cap = A.cap := by unfold Ar.alloc; rw [HF.out]
  have ho := hown2.out
  refine ⟨rfl, own, ⟨_, nb, _, len + 1, begun, u, U, ⟨?_, r4, M.ne, M.ge⟩, R, HO.out.pop HF.out, ho⟩, fun k hk => .inl hk, ?_⟩
  · rw [hA, e4]
    simp
  · have m : b ∈ own := by rw [ho]; simp
    have mg : g ∈ own := by rw [ho]; simp [Value.ownBlock]
    exact (((((K1.out.mono (by simp)).trans (Kp.set (o := own) _ _ _ m) (fun x hx => .inl hx)).trans (Kp.set (o := own) _ _ _ mg) (fun x hx => .inl hx)).trans (Kp.set (o := own) _ _ _ mg) (fun x hx => .inl hx)).trans (Kp.set (o := own) _ _ _ m) (fun x hx => .inl hx))

set_option maxRecDepth 100000 in
set_option maxHeartbeats 4000000 in
theorem alloc_fresh {B : Nat} {w : World} {b : Nat} {own : List Nat} {A : Ar} (h : At B w b own A) (hf : A.fr = []) (hc : A.T.length < A.cap) :
    Calls Try.prog 16 #[.pointer (some ⟨b, 0, none⟩)] w fun e w' => e = .returned (.tuple #[.int .i64 (A.T.length : Int), .int .i64 0]) ∧ Goes B w b own A.alloc w' := by
  have hn : nextV A = .tuple #[.int .i64 (A.T.length : Int), .bool true] := by unfold nextV Ar.next; rw [hf]; simp [hc]
  have nx := fun (w1 : World) (h1 : At B w1 b own A) => next_t h1
  rw [hn] at nx
  have v0 := fun (w1 : World) (h1 : At B w1 b own A) => valid_t b w1 (by obtain ⟨v, nb, xs, len, begun, top, U, M, R, ok, rfl⟩ := h1; exact M.c.1)
  have H := hide h
  have HF := hide hf
  have HC := hide hc
  clear h hn hf hc
  generalize hL : A.T.length = n at *
  have HL := hide hL
  clear hL
  go_enter Try.func16, Try.ntmps16
  go_wp2_with (go_at_call 37; refine (v0 _ H.out).mono ?_; rintro e w' ⟨rfl, rfl⟩)
  refine (nx _ H.out).mono ?_
  rintro e w1 ⟨rfl, k1⟩
  have h1 := H.out.keep k1 (by simp)
  have K1 := hide k1
  clear nx v0 k1
  obtain ⟨v, nb, xs, len, begun, top, U, M, R, ok, hown⟩ := h1
  obtain ⟨c0, c1, c2, c3, c4, c5⟩ := M.c
  have hb := R.beg.trans HL.out
  subst hb
  have bg := begin_any M R (by have := ok.le; have := ok.cap; have := HL.out; omega)
  have HM := hide M
  have HR := hide R
  have HO := hide ok
  have HW := hide hown
  have BG := hide bg
  clear M R ok hown c0 c1 c2 c4 c5 bg
  go_wp2_with fail
  refine BG.out.mono ?_
  rintro e w2 ⟨rfl, v', nb', xs', M, R, hn, hfr, k2⟩
  have hcc := HC.out
  have hll := HL.out
  have le := HO.out.le
  have cp := HO.out.cap
  have n2 := R.nb2
  obtain ⟨c0, c1, c2, c3, c4, c5⟩ := M.c
  obtain ⟨f0, f1, f2, f3, f4, f5⟩ := M.f
  obtain ⟨g, c, rfl, hgb, ⟨s0, s1, s2⟩, fr⟩ := slot_cells M (i := begun) (by omega)
  obtain ⟨z0, z1, z2⟩ := R.zs begun (by omega) (by omega)
  rw [z0] at s0
  rw [z1] at s1
  have ww : IntKind.i64.wrap ((len : Int) + 1) = (len : Int) + 1 := by have := R.len; rw [IntKind.wrap_i64]; omega
  have hgb' : ¬ b = g := Ne.symm hgb
  have f3i := fr (3 * begun)
  have f3j := fr (3 * begun + 1)
  have AT := hide c5
  have HN := hide (show begun < nb' * 64 ∧ nb' ≤ 2000 by omega)
  have HM2 := hide M
  have HR2 := hide R
  have HF2 := hide hfr
  have HN2 := hide hn
  have K2 := hide k2
  clear M R hfr hn k2 hcc hll le cp n2 c0 c1 c3 c4 c5 f0 f1 f3 f4 f5 fr z0 z1 z2 s2
  go_wp2_with (go_at_call 39; refine (at_t b g begun nb' c _ AT.out HN.out.1 HN.out.2).mono ?_; rintro e w' ⟨rfl, rfl⟩)
  go_ret2
  have M := HM2.out
  have e2 := blk_off M.blk hgb (3 * begun) (.int .i64 1)
  have e3 := blk_off e2 hgb (3 * begun + 1) (.int .u64 1)
  have e4 := heap_setCell_same _ _ 2 _ _ (.int .i64 ((len : Int) + 1)) e3
  have r2 := row_set M.own (3 * begun) (.int .i64 1)
  have r3 := row_set r2 (3 * begun + 1) (.int .u64 1)
  have r4 := row_off r3 hgb 2 (.int .i64 ((len : Int) + 1))
  have R := HR2.out.fresh HF.out HN2.out
  have hA : A.alloc.cap = A.cap := by unfold Ar.alloc; rw [HF.out]
  have ho := HW.out
  have k1 := K1.out
  have k2 := K2.out
  rw [← ho] at k2
  have kk : Kp own w w2 := (k1.mono (by simp)).trans k2 (fun x hx => .inl hx)
  have gg : g ∈ own ∨ w.heap.size ≤ g := by
    rcases HF2.out with h1 | ⟨k, h1, h2⟩
    · left; rw [ho, ← h1]; simp [Value.ownBlock]
    · right
      simp [Value.ownBlock] at h1
      have := k1.size
      omega
  have mb : b ∈ own := by rw [ho]; simp
  refine ⟨rfl, [b, g], ⟨_, nb', _, len + 1, begun + 1, top, _, ⟨?_, r4, M.ne, M.ge⟩, R, HO.out.fresh HF.out (by rw [HL.out]; exact HC.out), by simp [Value.ownBlock]⟩, fun k hk => ?_, ?_⟩
  · rw [hA, e4]
    simp
  · simp at hk
    rcases hk with rfl | rfl
    · exact .inl mb
    · exact gg
  · exact ((kk.trans (Kp.set (o := [b, g]) _ _ _ (by simp)) (by simp; exact ⟨.inl mb, gg⟩)).trans (Kp.set (o := [b, g]) _ _ _ (by simp)) (by simp; exact ⟨.inl mb, gg⟩)).trans (Kp.set (o := own) _ _ _ mb) (fun x hx => .inl hx)

set_option maxHeartbeats 1000000 in
theorem alloc_none {B : Nat} {w : World} {b : Nat} {own : List Nat} {A : Ar} (h : At B w b own A) (hf : A.fr = []) (hc : ¬ A.T.length < A.cap) :
    Calls Try.prog 16 #[.pointer (some ⟨b, 0, none⟩)] w fun e w' => e = .returned (.tuple #[.int .i64 0, .int .i64 4]) ∧ Kp [] w w' := by
  have hn : nextV A = .tuple #[.int .i64 0, .bool false] := by unfold nextV Ar.next; rw [hf]; simp [hc]
  have nx := fun (w1 : World) (h1 : At B w1 b own A) => next_t h1
  rw [hn] at nx
  have v0 := fun (w1 : World) (h1 : At B w1 b own A) => valid_t b w1 (by obtain ⟨v, nb, xs, len, begun, top, U, M, R, ok, rfl⟩ := h1; exact M.c.1)
  have H := hide h
  clear h hn hf hc
  go_enter Try.func16, Try.ntmps16
  go_wp2_with (go_at_call 37; refine (v0 _ H.out).mono ?_; rintro e w' ⟨rfl, rfl⟩)
  refine (nx _ H.out).mono ?_
  rintro e w1 ⟨rfl, k1⟩
  have K1 := hide k1
  clear k1 nx v0
  go_wp2_with fail
  go_ret2
  exact ⟨rfl, K1.out⟩
theorem alloc_f (p : Option Addr) (w : World) (h : p = none ∨ ∃ b, p = some ⟨b, 0, none⟩ ∧ w.cell? ⟨b, 0, none⟩ = some (.bool false)) :
    Calls Try.prog 16 #[.pointer p] w fun e w' => e = .returned (.tuple #[.int .i64 0, .int .i64 1]) ∧ w = w' := by
  have ht := valid_f p w h
  go_enter Try.func16, Try.ntmps16
  go_wp2_with (go_at_call 37; refine ht.mono ?_; rintro e w' ⟨rfl, rfl⟩)
  go_ret2
  exact ⟨rfl, rfl⟩
theorem At.goes {B : Nat} {w w' : World} {b : Nat} {own : List Nat} {A : Ar} (h : At B w b own A) (k : Kp [] w w') : Goes B w b own A w' :=
  ⟨own, h.keep k (by simp), fun k hk => .inl hk, k.mono (by simp)⟩
/-- Alloc, whatever the arena -/
theorem alloc_t {B : Nat} {w : World} {b : Nat} {own : List Nat} {A : Ar} (h : At B w b own A) :
    Calls Try.prog 16 #[.pointer (some ⟨b, 0, none⟩)] w fun e w' => e = .returned (allocV A) ∧ Goes B w b own A.alloc' w' := by
  rcases hf : A.fr with _ | ⟨i, r⟩
  · by_cases hc : A.T.length < A.cap
    · have e1 : A.next = some A.T.length := by unfold Ar.next; rw [hf]; simp [hc]
      unfold allocV Ar.alloc'
      rw [e1]
      exact alloc_fresh h hf hc
    · have e1 : A.next = none := by unfold Ar.next; rw [hf]; simp [hc]
      unfold allocV Ar.alloc'
      rw [e1]
      refine (alloc_none h hf hc).mono ?_
      rintro e w' ⟨rfl, k⟩
      exact ⟨rfl, h.goes k⟩
  · have e1 : A.next = some i := by unfold Ar.next; rw [hf]
    unfold allocV Ar.alloc'
    rw [e1]
    exact alloc_pop h hf
end Go.Proofs.Ytflblojmjdlhiaa
