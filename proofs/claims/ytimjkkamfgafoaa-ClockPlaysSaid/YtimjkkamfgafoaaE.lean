/- The document's clock: Live. -/
import Derived.Test.YtimjkkamfgafoaaD
set_option linter.unusedVariables false
set_option linter.unusedSimpArgs false
namespace Go.Proofs.Ytimjkkamfgafoaa
open Go.RowKit

theorem three_small {n t x : Int} (hn : 1 ≤ n) (hN : n ≤ 9223372036854775807) (ht : I64 t) (hx : I64 x) : x.natAbs + n.natAbs < 4294967296 ^ 6 ∧ t.natAbs + (x + n).natAbs < 4294967296 ^ 6 := by
  have e : (4294967296 : Nat) ^ 6 = 6277101735386680763835789423207666416102355444464034512896 := by decide
  rw [e]
  unfold I64 at ht hx
  omega
/-- two cells of a clock, behind what was made -/
abbrev CK (w : World) (b : Nat) (n t : Int) (w' : World) : Prop := w'.cell? ⟨b, 1, none⟩ = some (.int .i64 n) ∧ w'.cell? ⟨b, 2, none⟩ = some (.int .i64 t) ∧ Below w.heap.size w w'
theorem CK.step {w V V' : World} {b : Nat} {n t : Int} (h : CK w b n t V) (hb : b < w.heap.size) (k : Below V.heap.size V V') : CK w b n t V' := by
  obtain ⟨h1, h2, h3⟩ := h
  have hz := h3.size
  exact ⟨by rw [(bcell k).1 _ _ (by omega)]; exact h1, by rw [(bcell k).1 _ _ (by omega)]; exact h2, h3.trans (k.mono hz)⟩
theorem CK.alloc {w V : World} {b : Nat} {n t : Int} (h : CK w b n t V) (hb : b < w.heap.size) (o : Obj) : CK w b n t (V.alloc o) := h.step hb ((Below.refl _ _).alloc (Nat.le_refl _) _)
theorem CK.set {w V : World} {b : Nat} {n t : Int} (h : CK w b n t V) (hb : b < w.heap.size) (B i : Nat) (hB : w.heap.size ≤ B) (v : Value) : CK w b n t (V.setCell ⟨B, i, none⟩ v) := by
  obtain ⟨h1, h2, h3⟩ := h
  have ne : ∀ j, (⟨b, j, none⟩ : Addr) ≠ ⟨B, i, none⟩ := fun j e => by injection e with e; omega
  exact ⟨by rw [cell_far (ne 1)]; exact h1, by rw [cell_far (ne 2)]; exact h2, h3.setCell hB _⟩
theorem CK.set7 {w V : World} {b : Nat} {n t : Int} (h : CK w b n t V) (hb : b < w.heap.size) (B : Nat) (hB : w.heap.size ≤ B) (v0 v1 v2 v3 v4 v5 v6 : Value) : CK w b n t (((((((V.setCell ⟨B, 0, none⟩ v0).setCell ⟨B, 1, none⟩ v1).setCell ⟨B, 2, none⟩ v2).setCell ⟨B, 3, none⟩ v3).setCell ⟨B, 4, none⟩ v4).setCell ⟨B, 5, none⟩ v5).setCell ⟨B, 6, none⟩ v6) :=
  ((((((h.set hb B 0 hB _).set hb B 1 hB _).set hb B 2 hB _).set hb B 3 hB _).set hb B 4 hB _).set hb B 5 hB _).set hb B 6 hB _
/-- a wide integer that has just been made -/
def Z7 (B : Nat) (V : World) : Prop := V.cell? ⟨B, 0, none⟩ = some (.bool false) ∧ V.cell? ⟨B, 1, none⟩ = some (.int .u64 0) ∧ V.cell? ⟨B, 2, none⟩ = some (.int .u64 0) ∧ V.cell? ⟨B, 3, none⟩ = some (.int .u64 0) ∧ V.cell? ⟨B, 4, none⟩ = some (.int .u64 0) ∧ V.cell? ⟨B, 5, none⟩ = some (.int .u64 0) ∧ V.cell? ⟨B, 6, none⟩ = some (.int .u64 0) ∧ V.frozen? ⟨B, 0, none⟩ = false ∧ V.frozen? ⟨B, 1, none⟩ = false ∧ V.frozen? ⟨B, 2, none⟩ = false ∧ V.frozen? ⟨B, 3, none⟩ = false ∧ V.frozen? ⟨B, 4, none⟩ = false ∧ V.frozen? ⟨B, 5, none⟩ = false ∧ V.frozen? ⟨B, 6, none⟩ = false ∧ B < V.heap.size
theorem Z7.step {B : Nat} {V V' : World} (h : Z7 B V) (k : Below V.heap.size V V') : Z7 B V' := by
  obtain ⟨z0, z1, z2, z3, z4, z5, z6, y0, y1, y2, y3, y4, y5, y6, zl⟩ := h
  obtain ⟨kc, kf⟩ := bcell k
  refine ⟨?_, ?_, ?_, ?_, ?_, ?_, ?_, ?_, ?_, ?_, ?_, ?_, ?_, ?_, Nat.lt_of_lt_of_le zl k.size⟩
  all_goals first | (rw [kc _ _ zl]; assumption) | (rw [kf _ _ zl]; assumption)
theorem Z7.drew {B : Nat} {V : World} (h : Z7 B V) : Z7 B V.drew := h
theorem Z7.new (V : World) : Z7 V.heap.size (V.alloc (.cells #[.bool false, .int .u64 0, .int .u64 0, .int .u64 0, .int .u64 0, .int .u64 0, .int .u64 0] 58)) := by
  refine ⟨?_, ?_, ?_, ?_, ?_, ?_, ?_, ?_, ?_, ?_, ?_, ?_, ?_, ?_, ?_⟩ <;> simp [go_sem]
/-- a wide integer at block B, and a clock's time -/
abbrev E7 (w : World) (b : Nat) (t : Int) (B : Nat) (q : Bool) (d0 d1 d2 d3 d4 d5 : Nat) (V : World) : Prop := V.cell? ⟨B, 0, none⟩ = some (.bool q) ∧ V.cell? ⟨B, 1, none⟩ = some (.int .u64 (d0 : Int)) ∧ V.cell? ⟨B, 2, none⟩ = some (.int .u64 (d1 : Int)) ∧ V.cell? ⟨B, 3, none⟩ = some (.int .u64 (d2 : Int)) ∧ V.cell? ⟨B, 4, none⟩ = some (.int .u64 (d3 : Int)) ∧ V.cell? ⟨B, 5, none⟩ = some (.int .u64 (d4 : Int)) ∧ V.cell? ⟨B, 6, none⟩ = some (.int .u64 (d5 : Int)) ∧ V.cell? ⟨b, 2, none⟩ = some (.int .i64 t) ∧ B < V.heap.size ∧ Below w.heap.size w V
theorem E7.step {w V V' : World} {b : Nat} {t : Int} {B : Nat} {q : Bool} {d0 d1 d2 d3 d4 d5 : Nat} (h : E7 w b t B q d0 d1 d2 d3 d4 d5 V) (hb : b < w.heap.size) (k : Below V.heap.size V V') : E7 w b t B q d0 d1 d2 d3 d4 d5 V' := by
  obtain ⟨z0, z1, z2, z3, z4, z5, z6, h2, hz, h3⟩ := h
  have hs := h3.size
  obtain ⟨kc, kf⟩ := bcell k
  refine ⟨?_, ?_, ?_, ?_, ?_, ?_, ?_, ?_, Nat.lt_of_lt_of_le hz k.size, h3.trans (k.mono hs)⟩
  all_goals first | (rw [kc _ _ hz]; assumption) | (rw [kc _ _ (by omega)]; assumption)
theorem E7.drew {w V : World} {b : Nat} {t : Int} {B : Nat} {q : Bool} {d0 d1 d2 d3 d4 d5 : Nat} (h : E7 w b t B q d0 d1 d2 d3 d4 d5 V) : E7 w b t B q d0 d1 d2 d3 d4 d5 V.drew := by
  obtain ⟨z0, z1, z2, z3, z4, z5, z6, h2, hz, h3⟩ := h
  exact ⟨z0, z1, z2, z3, z4, z5, z6, h2, hz, h3.drew⟩
theorem E7.new {w V : World} {b : Nat} {n t : Int} {q : Bool} {d0 d1 d2 d3 d4 d5 : Nat} (h : CK w b n t V) (hb : b < w.heap.size) : E7 w b t V.heap.size q d0 d1 d2 d3 d4 d5 (V.alloc (.cells #[.bool q, .int .u64 (d0 : Int), .int .u64 (d1 : Int), .int .u64 (d2 : Int), .int .u64 (d3 : Int), .int .u64 (d4 : Int), .int .u64 (d5 : Int)] 58)) := by
  obtain ⟨_, h2, h3⟩ := CK.alloc h hb (.cells #[.bool q, .int .u64 (d0 : Int), .int .u64 (d1 : Int), .int .u64 (d2 : Int), .int .u64 (d3 : Int), .int .u64 (d4 : Int), .int .u64 (d5 : Int)] 58)
  refine ⟨?_, ?_, ?_, ?_, ?_, ?_, ?_, h2, by simp, h3⟩ <;> simp [go_sem]
theorem E7.set {w V : World} {b : Nat} {n t : Int} {B : Nat} {q : Bool} {d0 d1 d2 d3 d4 d5 : Nat} (h : CK w b n t V) (hb : b < w.heap.size) (hB : w.heap.size ≤ B) (z : Z7 B V) : E7 w b t B q d0 d1 d2 d3 d4 d5 (((((((V.setCell ⟨B, 0, none⟩ (.bool q)).setCell ⟨B, 1, none⟩ (.int .u64 (d0 : Int))).setCell ⟨B, 2, none⟩ (.int .u64 (d1 : Int))).setCell ⟨B, 3, none⟩ (.int .u64 (d2 : Int))).setCell ⟨B, 4, none⟩ (.int .u64 (d3 : Int))).setCell ⟨B, 5, none⟩ (.int .u64 (d4 : Int))).setCell ⟨B, 6, none⟩ (.int .u64 (d5 : Int))) := by
  obtain ⟨_, h2, h3⟩ := CK.set7 h hb B hB (.bool q) (.int .u64 (d0 : Int)) (.int .u64 (d1 : Int)) (.int .u64 (d2 : Int)) (.int .u64 (d3 : Int)) (.int .u64 (d4 : Int)) (.int .u64 (d5 : Int))
  obtain ⟨z0, z1, z2, z3, z4, z5, z6, y0, y1, y2, y3, y4, y5, y6, zl⟩ := z
  refine ⟨?_, ?_, ?_, ?_, ?_, ?_, ?_, h2, by simpa [World.setCell] using zl, h3⟩ <;> simp [go_sem, *]
set_option maxRecDepth 100000 in
set_option maxHeartbeats 4000000 in
theorem rlive_t {w : World} {b : Nat} {n t : Int} (h : Rl w b n t) (x : Int) (hx : I64 x) : Calls Try.prog 29 #[.pointer (some ⟨b, 0, none⟩), .int .i64 x] w fun e w' => e = .returned (.bool (lv n t x)) ∧ Below w.heap.size w w' := by
  obtain ⟨c0, c1, c2, _⟩ := h.c
  have V := hide (rvalid_t c0)
  have hp := upPtrR
  by_cases ha : x ≤ t
  · have hd : decide (t < x) = false := by simp; omega
    have ti : I64 t := by have := h.t0; have := h.tn; have := h.n1; unfold I64; omega
    have ni : I64 n := by have := h.nI; have := h.n1; unfold I64; omega
    obtain ⟨m1, m2⟩ := three_small h.n1 h.nI ti hx
    have M1 := hide m1
    have M2 := hide m2
    have L0 := hide (show lv n t x = decide (t < x + n) by unfold lv; simp [ha])
    have FX := hide (from_ x hx)
    have FN := hide (from_ n ni)
    have FT := hide (from_ t ti)
    have hlt := h.lt
    have HL := hide hlt
    clear m1 m2 hx ti ni ha h hlt
    go_enter Try.func29, Try.ntmps29
    go_wp2_with fail
    refine V.out.mono ?_
    rintro e w' ⟨rfl, rfl⟩
    go_wp2_with fail
    have K0 : w.drew.cell? ⟨b, 1, none⟩ = some (.int .i64 n) ∧ w.drew.cell? ⟨b, 2, none⟩ = some (.int .i64 t) ∧ Below w.heap.size w w.drew := ⟨c1, c2, (Below.refl _ _).drew⟩
    have K00 : (w.alloc (.cells #[.bool false, .int .u64 0, .int .u64 0, .int .u64 0, .int .u64 0, .int .u64 0, .int .u64 0] 58)).drew.cell? ⟨b, 1, none⟩ = some (.int .i64 n) ∧ (w.alloc (.cells #[.bool false, .int .u64 0, .int .u64 0, .int .u64 0, .int .u64 0, .int .u64 0, .int .u64 0] 58)).drew.cell? ⟨b, 2, none⟩ = some (.int .i64 t) ∧ Below w.heap.size w (w.alloc (.cells #[.bool false, .int .u64 0, .int .u64 0, .int .u64 0, .int .u64 0, .int .u64 0, .int .u64 0] 58)).drew := CK.alloc (w := w) (V := w.drew) K0 HL.out _
    go_region_held3 (fun w' => w'.cell? ⟨b, 1, none⟩ = some (.int .i64 n) ∧ w'.cell? ⟨b, 2, none⟩ = some (.int .i64 t) ∧ Below w.heap.size w w') (first | with_reducible assumption | (with_reducible (refine CK.alloc (w := w) ?_ HL.out _; assumption)) | (with_reducible (refine CK.set7 (w := w) ?_ HL.out _ ?_ _ _ _ _ _ _ _; assumption; first | exact Nat.le_refl _ | assumption)))
      (first
        | (go_at_call_of 35 (Value.int .i64 x); refine (FX.out _).mono ?_; rintro e w1 ⟨s, a0, a1, a2, a3, a4, a5, rfl, q1, bq⟩; have H1 := hide q1; have K1 : w1.cell? ⟨b, 1, none⟩ = some (.int .i64 n) ∧ w1.cell? ⟨b, 2, none⟩ = some (.int .i64 t) ∧ Below w.heap.size w w1 := CK.step (by assumption) HL.out bq; have kz1 : w.heap.size ≤ w1.heap.size := K1.2.2.size; (try (have Z1 := Z7.step (Z7.new w).drew bq)); clear q1 bq)
        | (go_at_call_of 35 (Value.int .i64 n); refine (FN.out _).mono ?_; rintro e w2 ⟨r, b0, b1, b2, b3, b4, b5, rfl, q2, bq⟩; have H2 := hide q2; have K2 : w2.cell? ⟨b, 1, none⟩ = some (.int .i64 n) ∧ w2.cell? ⟨b, 2, none⟩ = some (.int .i64 t) ∧ Below w.heap.size w w2 := CK.step (by assumption) HL.out bq; have kz2 : w.heap.size ≤ w2.heap.size := K2.2.2.size; (first | (have Z2 := Z7.step (Z7.new w1) bq) | (have Z2 := Z7.step ‹Z7 _ w1› bq) | skip); clear q2 bq)
        | (go_at_call 34; refine (plus_ x n s r a0 a1 a2 a3 a4 a5 b0 b1 b2 b3 b4 b5 H1.out H2.out M1.out _).mono ?_; rintro e w3 ⟨q, d0, d1, d2, d3, d4, d5, rfl, q3, bq⟩; have H3 := hide q3; have K3 : w3.cell? ⟨b, 1, none⟩ = some (.int .i64 n) ∧ w3.cell? ⟨b, 2, none⟩ = some (.int .i64 t) ∧ Below w.heap.size w w3 := CK.step (by assumption) HL.out bq; have kz3 : w.heap.size ≤ w3.heap.size := K3.2.2.size; (first | (have Z3 := Z7.step (Z7.new w2) bq; obtain ⟨z0, z1, z2, z3, z4, z5, z6, y0, y1, y2, y3, y4, y5, y6, zl⟩ := id Z3; have Z3' := hide Z3) | (have Z3 := Z7.step ‹Z7 _ w2› bq; obtain ⟨z0, z1, z2, z3, z4, z5, z6, y0, y1, y2, y3, y4, y5, y6, zl⟩ := id Z3; have Z3' := hide Z3) | skip); clear q3 bq))
    all_goals
      have E0 : ∃ B V, True := ⟨0, w, trivial⟩
      first
        | (have E := hide (E7.set (q := q) (d0 := d0) (d1 := d1) (d2 := d2) (d3 := d3) (d4 := d4) (d5 := d5) K3 HL.out (by assumption) (show Z7 w2.heap.size w3 from Z3'.out)); generalize (((((((w3.setCell ⟨w2.heap.size, 0, none⟩ (.bool q)).setCell ⟨w2.heap.size, 1, none⟩ (.int .u64 (d0 : Int))).setCell ⟨w2.heap.size, 2, none⟩ (.int .u64 (d1 : Int))).setCell ⟨w2.heap.size, 3, none⟩ (.int .u64 (d2 : Int))).setCell ⟨w2.heap.size, 4, none⟩ (.int .u64 (d3 : Int))).setCell ⟨w2.heap.size, 5, none⟩ (.int .u64 (d4 : Int))).setCell ⟨w2.heap.size, 6, none⟩ (.int .u64 (d5 : Int))) = V at E ⊢; obtain ⟨B, hB⟩ : ∃ B, B = w2.heap.size := ⟨_, rfl⟩; rw [← hB] at E ⊢; clear hB)
        | (have E := hide (E7.set (q := q) (d0 := d0) (d1 := d1) (d2 := d2) (d3 := d3) (d4 := d4) (d5 := d5) K3 HL.out (by assumption) (show Z7 w1.heap.size w3 from Z3'.out)); generalize (((((((w3.setCell ⟨w1.heap.size, 0, none⟩ (.bool q)).setCell ⟨w1.heap.size, 1, none⟩ (.int .u64 (d0 : Int))).setCell ⟨w1.heap.size, 2, none⟩ (.int .u64 (d1 : Int))).setCell ⟨w1.heap.size, 3, none⟩ (.int .u64 (d2 : Int))).setCell ⟨w1.heap.size, 4, none⟩ (.int .u64 (d3 : Int))).setCell ⟨w1.heap.size, 5, none⟩ (.int .u64 (d4 : Int))).setCell ⟨w1.heap.size, 6, none⟩ (.int .u64 (d5 : Int))) = V at E ⊢; obtain ⟨B, hB⟩ : ∃ B, B = w1.heap.size := ⟨_, rfl⟩; rw [← hB] at E ⊢; clear hB)
        | (have E := hide (E7.set (q := q) (d0 := d0) (d1 := d1) (d2 := d2) (d3 := d3) (d4 := d4) (d5 := d5) K3 HL.out (Nat.le_refl _) (show Z7 w.heap.size w3 from Z3'.out)); generalize (((((((w3.setCell ⟨w.heap.size, 0, none⟩ (.bool q)).setCell ⟨w.heap.size, 1, none⟩ (.int .u64 (d0 : Int))).setCell ⟨w.heap.size, 2, none⟩ (.int .u64 (d1 : Int))).setCell ⟨w.heap.size, 3, none⟩ (.int .u64 (d2 : Int))).setCell ⟨w.heap.size, 4, none⟩ (.int .u64 (d3 : Int))).setCell ⟨w.heap.size, 5, none⟩ (.int .u64 (d4 : Int))).setCell ⟨w.heap.size, 6, none⟩ (.int .u64 (d5 : Int))) = V at E ⊢; obtain ⟨B, hB⟩ : ∃ B, B = w.heap.size := ⟨_, rfl⟩; rw [← hB] at E ⊢; clear hB)
        | (have E := hide (E7.new (q := q) (d0 := d0) (d1 := d1) (d2 := d2) (d3 := d3) (d4 := d4) (d5 := d5) K3 HL.out); generalize (w3.alloc (.cells #[.bool q, .int .u64 (d0 : Int), .int .u64 (d1 : Int), .int .u64 (d2 : Int), .int .u64 (d3 : Int), .int .u64 (d4 : Int), .int .u64 (d5 : Int)] 58)) = V at E ⊢; obtain ⟨B, hB⟩ : ∃ B, B = w3.heap.size := ⟨_, rfl⟩; rw [← hB] at E ⊢; clear hB)
      clear E0 K0 K00 K1 K2 K3 c1 c2 c0
      try clear z0 z1 z2 z3 z4 z5 z6 y0 y1 y2 y3 y4 y5 y6 zl Z3 Z3'
      have J0 : V.drew.cell? ⟨B, 0, none⟩ = some (.bool q) ∧ V.drew.cell? ⟨B, 1, none⟩ = some (.int .u64 (d0 : Int)) ∧ V.drew.cell? ⟨B, 2, none⟩ = some (.int .u64 (d1 : Int)) ∧ V.drew.cell? ⟨B, 3, none⟩ = some (.int .u64 (d2 : Int)) ∧ V.drew.cell? ⟨B, 4, none⟩ = some (.int .u64 (d3 : Int)) ∧ V.drew.cell? ⟨B, 5, none⟩ = some (.int .u64 (d4 : Int)) ∧ V.drew.cell? ⟨B, 6, none⟩ = some (.int .u64 (d5 : Int)) ∧ V.drew.cell? ⟨b, 2, none⟩ = some (.int .i64 t) ∧ B < V.drew.heap.size ∧ Below w.heap.size w V.drew := E7.drew E.out
      obtain ⟨p0, p1, p2, p3, p4, p5, p6, pt, pz, pb⟩ := E.out
      go_wp2_with fail
      go_region_held3 (fun V' => V'.cell? ⟨B, 0, none⟩ = some (.bool q) ∧ V'.cell? ⟨B, 1, none⟩ = some (.int .u64 (d0 : Int)) ∧ V'.cell? ⟨B, 2, none⟩ = some (.int .u64 (d1 : Int)) ∧ V'.cell? ⟨B, 3, none⟩ = some (.int .u64 (d2 : Int)) ∧ V'.cell? ⟨B, 4, none⟩ = some (.int .u64 (d3 : Int)) ∧ V'.cell? ⟨B, 5, none⟩ = some (.int .u64 (d4 : Int)) ∧ V'.cell? ⟨B, 6, none⟩ = some (.int .u64 (d5 : Int)) ∧ V'.cell? ⟨b, 2, none⟩ = some (.int .i64 t) ∧ B < V'.heap.size ∧ Below w.heap.size w V') (with_reducible assumption)
        (first
          | (go_at_call 35; refine (FT.out _).mono ?_; rintro e w4 ⟨u, f0, f1, f2, f3, f4, f5, rfl, q4, bq⟩; have H4 := hide q4; have J1 : w4.cell? ⟨B, 0, none⟩ = some (.bool q) ∧ w4.cell? ⟨B, 1, none⟩ = some (.int .u64 (d0 : Int)) ∧ w4.cell? ⟨B, 2, none⟩ = some (.int .u64 (d1 : Int)) ∧ w4.cell? ⟨B, 3, none⟩ = some (.int .u64 (d2 : Int)) ∧ w4.cell? ⟨B, 4, none⟩ = some (.int .u64 (d3 : Int)) ∧ w4.cell? ⟨B, 5, none⟩ = some (.int .u64 (d4 : Int)) ∧ w4.cell? ⟨B, 6, none⟩ = some (.int .u64 (d5 : Int)) ∧ w4.cell? ⟨b, 2, none⟩ = some (.int .i64 t) ∧ B < w4.heap.size ∧ Below w.heap.size w w4 := E7.step (by assumption) HL.out bq; clear q4 bq)
          | (go_at_call 36; refine (order_ t (x + n) u q f0 f1 f2 f3 f4 f5 d0 d1 d2 d3 d4 d5 H4.out H3.out M2.out _).mono ?_; rintro e w5 ⟨rfl, bq⟩; have J2 : w5.cell? ⟨B, 0, none⟩ = some (.bool q) ∧ w5.cell? ⟨B, 1, none⟩ = some (.int .u64 (d0 : Int)) ∧ w5.cell? ⟨B, 2, none⟩ = some (.int .u64 (d1 : Int)) ∧ w5.cell? ⟨B, 3, none⟩ = some (.int .u64 (d2 : Int)) ∧ w5.cell? ⟨B, 4, none⟩ = some (.int .u64 (d3 : Int)) ∧ w5.cell? ⟨B, 5, none⟩ = some (.int .u64 (d4 : Int)) ∧ w5.cell? ⟨B, 6, none⟩ = some (.int .u64 (d5 : Int)) ∧ w5.cell? ⟨b, 2, none⟩ = some (.int .i64 t) ∧ B < w5.heap.size ∧ Below w.heap.size w w5 := E7.step (by assumption) HL.out bq; clear bq))
      have bel := J2.2.2.2.2.2.2.2.2.2
      clear J0 J1 J2 p0 p1 p2 p3 p4 p5 p6 pt pz pb
      go_wp2_with fail
      go_ret
      exact ⟨by rw [L0.out, ← sgn_neg t (x + n)]; rfl, bel⟩
  · have hd : decide (t < x) = true := by simp; omega
    have L0 := hide (show lv n t x = false by unfold lv; simp [ha])
    clear hx ha h
    go_enter Try.func29, Try.ntmps29
    go_wp2_with fail
    refine V.out.mono ?_
    rintro e w' ⟨rfl, rfl⟩
    go_wp2_with fail
    go_ret
    exact ⟨by rw [L0.out]; rfl, Below.refl _ _⟩
end Go.Proofs.Ytimjkkamfgafoaa
