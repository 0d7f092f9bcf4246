import Derived.Test.YtomgdleoegaooaaC
import Derived.Deep.RegionHeld3
set_option linter.unusedVariables false
set_option linter.unusedSimpArgs false
namespace Go.Proofs.Ytomgdleoegaooaa
open Go.RowKit

theorem bcell {B : Nat} {W w1 : World} (hb : Below B W w1) : (∀ b o, b < B → w1.cell? ⟨b, o, none⟩ = W.cell? ⟨b, o, none⟩) ∧ (∀ b o, b < B → w1.frozen? ⟨b, o, none⟩ = W.frozen? ⟨b, o, none⟩) :=
  ⟨fun b o h => hb.cell (p := ⟨b, o, none⟩) h, fun b o h => hb.frozen (p := ⟨b, o, none⟩) h⟩

/-- two blocks of two cells each, laid behind w -/
def S4 (w : World) (n d m f : Value) (w' : World) : Prop := w'.cell? ⟨w.heap.size, 0, none⟩ = some n ∧ w'.cell? ⟨w.heap.size, 1, none⟩ = some d ∧ w'.cell? ⟨w.heap.size + 1, 0, none⟩ = some m ∧ w'.cell? ⟨w.heap.size + 1, 1, none⟩ = some f ∧ Below w.heap.size w w' ∧ w.heap.size + 2 ≤ w'.heap.size
theorem S4.keep {w W w1 : World} {n d m f : Value} (b : Below W.heap.size W w1) (h : S4 w n d m f W) : S4 w n d m f w1 := by
  obtain ⟨c0, c1, c2, c3, bb, hz⟩ := h
  have k := (bcell b).1
  exact ⟨by rw [k _ _ (by omega), c0], by rw [k _ _ (by omega), c1], by rw [k _ _ (by omega), c2], by rw [k _ _ (by omega), c3], bb.trans (b.mono (by omega)), by have := b.size; omega⟩

set_option maxHeartbeats 1000000 in
theorem comp_ok (n d m f : Int) (hn : I64 n) (hd : I64 d) (hm : I64 m) (hf : I64 f) (h1 : 1 ≤ d) (h2 : 1 ≤ f) (w : World) :
    Calls Try.prog 26 #[.agg #[.int .i64 n, .int .i64 d], .agg #[.int .i64 m, .int .i64 f]] w fun e w' => e = .returned (.tuple #[.int .i64 (sgn (n * f) (m * d)), .int .i64 0]) ∧ Below w.heap.size w w' := by
  have hd1 : decide (d < 1) = false := by simp; omega
  have hf1 : decide (f < 1) = false := by simp; omega
  have q1 := prod_w128 hn hf
  have q2 := prod_w128 hm hd
  go_enter Try.func26, Try.ntmps26
  go_wp2_with fail
  have c0 : ((w.alloc (Obj.cells #[Value.int IntKind.i64 n, Value.int IntKind.i64 d] 34)).alloc (Obj.cells #[Value.int IntKind.i64 m, Value.int IntKind.i64 f] 34)).cell? ⟨w.heap.size, 0, none⟩ = some (.int .i64 n) := by simp [go_sem]
  have c1 : ((w.alloc (Obj.cells #[Value.int IntKind.i64 n, Value.int IntKind.i64 d] 34)).alloc (Obj.cells #[Value.int IntKind.i64 m, Value.int IntKind.i64 f] 34)).cell? ⟨w.heap.size, 1, none⟩ = some (.int .i64 d) := by simp [go_sem]
  have c2 : ((w.alloc (Obj.cells #[Value.int IntKind.i64 n, Value.int IntKind.i64 d] 34)).alloc (Obj.cells #[Value.int IntKind.i64 m, Value.int IntKind.i64 f] 34)).cell? ⟨w.heap.size + 1, 0, none⟩ = some (.int .i64 m) := by simp [go_sem]
  have c3 : ((w.alloc (Obj.cells #[Value.int IntKind.i64 n, Value.int IntKind.i64 d] 34)).alloc (Obj.cells #[Value.int IntKind.i64 m, Value.int IntKind.i64 f] 34)).cell? ⟨w.heap.size + 1, 1, none⟩ = some (.int .i64 f) := by simp [go_sem]
  have bb : Below w.heap.size w ((w.alloc (Obj.cells #[Value.int IntKind.i64 n, Value.int IntKind.i64 d] 34)).alloc (Obj.cells #[Value.int IntKind.i64 m, Value.int IntKind.i64 f] 34)) := ((Below.refl _ _).alloc (Nat.le_refl _) _).alloc (by simp) _
  have hz : w.heap.size + 2 ≤ ((w.alloc (Obj.cells #[Value.int IntKind.i64 n, Value.int IntKind.i64 d] 34)).alloc (Obj.cells #[Value.int IntKind.i64 m, Value.int IntKind.i64 f] 34)).heap.size := by simp
  generalize ((w.alloc (Obj.cells #[Value.int IntKind.i64 n, Value.int IntKind.i64 d] 34)).alloc (Obj.cells #[Value.int IntKind.i64 m, Value.int IntKind.i64 f] 34)) = W at *
  go_region_held3 (fun w' => w'.cell? ⟨w.heap.size, 0, none⟩ = some (.int .i64 n) ∧ w'.cell? ⟨w.heap.size, 1, none⟩ = some (.int .i64 d) ∧ w'.cell? ⟨w.heap.size + 1, 0, none⟩ = some (.int .i64 m) ∧ w'.cell? ⟨w.heap.size + 1, 1, none⟩ = some (.int .i64 f) ∧ Below w.heap.size w w' ∧ w.heap.size + 2 ≤ w'.heap.size)
    (first
      | exact ⟨c0, c1, c2, c3, bb.drew, hz⟩
      | exact S4.keep b1 ⟨c0, c1, c2, c3, bb.drew, hz⟩
      | exact S4.keep b2 (S4.keep b1 ⟨c0, c1, c2, c3, bb.drew, hz⟩)
      | exact S4.keep b3 (S4.keep b2 (S4.keep b1 ⟨c0, c1, c2, c3, bb.drew, hz⟩)))
    (first
      | (go_at_call_of 33 (Value.int .i64 n); refine (product n f hn hf _).mono ?_; rintro e w1 ⟨rfl, b1⟩)
      | (go_at_call_of 33 (Value.int .i64 m); refine (product m d hm hd _).mono ?_; rintro e w2 ⟨rfl, b2⟩)
      | (go_at_call 44; refine (compare (n * f) (m * d) q1 q2 _).mono ?_; rintro e w3 ⟨rfl, b3⟩))
  rename_i hk
  have hk' := hide hk.2.2.2.2.1
  clear hk
  go_wp2
  go_ret2
  exact ⟨rfl, hk'.out⟩
set_option maxHeartbeats 1000000 in
theorem comp_no (n d m f : Int) (h : d < 1 ∨ f < 1) (w : World) :
    Calls Try.prog 26 #[.agg #[.int .i64 n, .int .i64 d], .agg #[.int .i64 m, .int .i64 f]] w fun e w' => e = .returned (.tuple #[.int .i64 0, .int .i64 2]) ∧ Below w.heap.size w w' := by
  by_cases h1 : d < 1
  · have hd1 : decide (d < 1) = true := by simp; omega
    go_enter Try.func26, Try.ntmps26
    go_wp2_with fail
    go_ret2
    exact ⟨rfl, ((Below.refl _ _).alloc (Nat.le_refl _) _).alloc (by simp) _⟩
  · have hd1 : decide (d < 1) = false := by simp; omega
    have hf1 : decide (f < 1) = true := by simp; omega
    clear h
    go_enter Try.func26, Try.ntmps26
    go_wp2_with fail
    go_ret2
    exact ⟨rfl, ((Below.refl _ _).alloc (Nat.le_refl _) _).alloc (by simp) _⟩

end Go.Proofs.Ytomgdleoegaooaa
