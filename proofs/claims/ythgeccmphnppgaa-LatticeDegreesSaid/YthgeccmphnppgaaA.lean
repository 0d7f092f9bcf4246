/- Lists of edges in memory; two lists that are the same. -/
import Derived.Test.YthgeccmphnppgaaBase
set_option linter.unusedVariables false
set_option linter.unusedSimpArgs false
namespace Go.Proofs.Ythgeccmphnppgaa
open Go.RowKit

abbrev E3 := Int × Int × Int
def ec (t : E3) : List Value := [.int .i64 t.1, .int .i64 t.2.1, .int .i64 t.2.2]
def ecs (l : List E3) : List Value := l.flatMap ec
theorem ecs_nil : ecs [] = [] := rfl
theorem ecs_append (a b : List E3) : ecs (a ++ b) = ecs a ++ ecs b := by simp [ecs]
theorem ecs_len (l : List E3) : (ecs l).length = l.length * 3 := by
  induction l with
  | nil => rfl
  | cons t l ih => simp only [ecs, List.flatMap_cons, List.length_append, List.length_cons] at ih ⊢; rw [ih]; simp [ec]; omega
theorem ecs_at : ∀ {l : List E3} {i : Nat} {t : E3}, l[i]? = some t → (ecs l)[i * 3]? = some (.int .i64 t.1) ∧ (ecs l)[i * 3 + 1]? = some (.int .i64 t.2.1) ∧ (ecs l)[i * 3 + 2]? = some (.int .i64 t.2.2) := by
  intro l
  induction l with
  | nil => intro i t h; simp at h
  | cons x l ih =>
    intro i t h
    have e : ecs (x :: l) = ec x ++ ecs l := rfl
    rw [e]
    cases i with
    | zero => simp at h; subst h; exact ⟨rfl, rfl, rfl⟩
    | succ i =>
      simp at h
      obtain ⟨h1, h2, h3⟩ := ih h
      have l3 : (ec x).length = 3 := rfl
      refine ⟨?_, ?_, ?_⟩ <;> rw [List.getElem?_append_right (by omega), l3]
      · rw [show (i + 1) * 3 - 3 = i * 3 by omega]; exact h1
      · rw [show (i + 1) * 3 + 1 - 3 = i * 3 + 1 by omega]; exact h2
      · rw [show (i + 1) * 3 + 2 - 3 = i * 3 + 2 by omega]; exact h3
theorem ecs_one (l : List E3) : ∀ u ∈ ecs l, u.oneCell' = true := by
  intro u hu
  simp only [ecs, List.mem_flatMap] at hu
  obtain ⟨t, _, h⟩ := hu
  simp [ec] at h
  rcases h with rfl | rfl | rfl <;> rfl
/-- a slice that reads as a list of edges -/
def RdE (w : World) (v : Value) (l : List E3) : Prop := ∃ p c, v = .slice p l.length c ∧ (l = [] ∨ ∃ b off, p = some ⟨b, off, none⟩ ∧ b < w.heap.size ∧
  ∀ i t, l[i]? = some t → w.cell? ⟨b, off + i * 3, none⟩ = some (.int .i64 t.1) ∧ w.cell? ⟨b, off + i * 3 + 1, none⟩ = some (.int .i64 t.2.1) ∧ w.cell? ⟨b, off + i * 3 + 2, none⟩ = some (.int .i64 t.2.2))
theorem RdE.keep {w w' : World} {v : Value} {l : List E3} (h : RdE w v l) (k : Below w.heap.size w w') : RdE w' v l := by
  obtain ⟨p, c, rfl, h⟩ := h
  refine ⟨p, c, rfl, ?_⟩
  rcases h with h | ⟨b, off, rfl, hb, hc⟩
  · exact .inl h
  · refine .inr ⟨b, off, rfl, Nat.lt_of_lt_of_le hb k.size, fun i t hi => ?_⟩
    have e : ∀ j, w'.cell? ⟨b, j, none⟩ = w.cell? ⟨b, j, none⟩ := fun j => World.cell?_of_block (w := w) (k.block b hb)
    rw [e, e, e]
    exact hc i t hi
theorem RdE.of_row {w : World} {B : Nat} {v : Value} {l : List E3} (h : w.ownsRow B 50 3 v l.length (ecs l)) : RdE w v l := by
  obtain ⟨p, c, rfl⟩ := row_slice h
  refine ⟨p, c, rfl, ?_⟩
  rcases h.2 with ⟨_, h0⟩ | ⟨g, cap, cur, he, hg, hh, _⟩
  · exact .inl (List.eq_nil_of_length_eq_zero h0)
  · injection he with he _ _
    subst he
    refine .inr ⟨g, 0, rfl, lt_of_blk hh, fun i t hi => ?_⟩
    have hlt := (List.getElem?_eq_some_iff.1 hi).1
    have hl := ecs_len l
    obtain ⟨h1, h2, h3⟩ := ecs_at hi
    refine ⟨?_, ?_, ?_⟩ <;> rw [Nat.zero_add]
    · rw [h.cellAt _ (by omega)]; exact h1
    · rw [h.cellAt _ (by omega)]; exact h2
    · rw [h.cellAt _ (by omega)]; exact h3
theorem RdE.slice {w : World} {v : Value} {l : List E3} (h : RdE w v l) : ∃ p c, v = .slice p l.length c := by
  obtain ⟨p, c, h, _⟩ := h
  exact ⟨p, c, h⟩
theorem RdE.at {w : World} {p : Option Addr} {n c : Nat} {l : List E3} (h : RdE w (.slice p n c) l) {i : Nat} {t : E3} (hi : l[i]? = some t) : ∃ b off, p = some ⟨b, off, none⟩ ∧ 
   w.cell? ⟨b, off + i * 3, none⟩ = some (.int .i64 t.1) ∧ w.cell? ⟨b, off + i * 3 + 1, none⟩ = some (.int .i64 t.2.1) ∧ w.cell? ⟨b, off + i * 3 + 2, none⟩ = some (.int .i64 t.2.2) := by
  obtain ⟨p', c', he, h⟩ := h
  injection he with h1 h2 h3
  subst h1
  rcases h with rfl | ⟨b, off, rfl, _, hc⟩
  · simp at hi
  · obtain ⟨h1, h2, h3⟩ := hc i t hi
    exact ⟨b, off, rfl, h1, h2, h3⟩
set_option maxRecDepth 100000 in
set_option maxHeartbeats 4000000 in
theorem same_e (w : World) (v1 v2 : Value) (l : List E3) (h1 : RdE w v1 l) (h2 : RdE w v2 l) (hl : l.length ≤ 1000000) :
    Calls Try.prog 16 #[v1, v2] w fun e w' => e = .returned (.bool true) ∧ Below w.heap.size w w' := by
  obtain ⟨p, c, rfl⟩ := h1.slice
  obtain ⟨q, d, rfl⟩ := h2.slice
  have H1 := hide h1
  have H2 := hide h2
  have HL := hide hl
  clear h1 h2 hl
  generalize hn : l.length = n at *
  have HN := hide hn
  clear hn
  go_enter Try.func16, Try.ntmps16
  go_wp2_with fail
  go_loopw [5] (fun i wr => ∃ k : Nat, i = .int .i64 (k : Int) ∧ Hid (k ≤ n) ∧ Hid (∃ q, wr = w.drewN q)) (fun i _ => n - (intOf i).toNat)
  case atStart => exact ⟨0, rfl, Nat.zero_le _, 0, rfl⟩
  case round =>
    obtain ⟨k, rfl, hk, hq⟩ := hrel
    obtain ⟨qq, rfl⟩ := hq.out
    by_cases hlt : k < n
    · have dk : decide (k < n) = true := by simpa using hlt
      have ww : IntKind.i64.wrap ((k : Int) + 1) = (k : Int) + 1 := by have := HL.out; rw [IntKind.wrap_i64]; omega
      obtain ⟨t, ht⟩ : ∃ t, l[k]? = some t := ⟨_, List.getElem?_eq_getElem (by rw [HN.out]; exact hlt)⟩
      obtain ⟨b1, o1, rfl, e1, e2, e3⟩ := H1.out.at ht
      obtain ⟨b2, o2, rfl, f1, f2, f3⟩ := H2.out.at ht
      generalize t.1 = t1 at *
      generalize t.2.1 = t2 at *
      generalize t.2.2 = t3 at *
      have HK := hide hlt
      generalize hwr : w.drewN qq = wr
      have HW := hide hwr
      have e1' : wr.cell? ⟨b1, o1 + k * 3, none⟩ = some (.int .i64 t1) := by rw [← hwr]; exact e1
      have e2' : wr.cell? ⟨b1, o1 + k * 3 + 1, none⟩ = some (.int .i64 t2) := by rw [← hwr]; exact e2
      have e3' : wr.cell? ⟨b1, o1 + k * 3 + 2, none⟩ = some (.int .i64 t3) := by rw [← hwr]; exact e3
      have f1' : wr.cell? ⟨b2, o2 + k * 3, none⟩ = some (.int .i64 t1) := by rw [← hwr]; exact f1
      have f2' : wr.cell? ⟨b2, o2 + k * 3 + 1, none⟩ = some (.int .i64 t2) := by rw [← hwr]; exact f2
      have f3' : wr.cell? ⟨b2, o2 + k * 3 + 2, none⟩ = some (.int .i64 t3) := by rw [← hwr]; exact f3
      clear e1 e2 e3 f1 f2 f3 hwr ht
      go_wp2_with fail
      go_quiet (fail)
      go_wp2_with fail
      go_roundw
      case rel => exact ⟨k + 1, by go_num, by have := HK.out; show k + 1 ≤ n; omega, qq + nq, by rw [← HW.out, World.drewN_drewN]⟩
      case measure => have := HK.out; simp [intOf]; omega
    · have dk : decide (k < n) = false := by simp; omega
      clear hlt
      go_wp2_with fail
      go_ret
      exact ⟨rfl, (Kp.drewN [] _ _).below (by simp) (Nat.le_refl _)⟩
end Go.Proofs.Ythgeccmphnppgaa
