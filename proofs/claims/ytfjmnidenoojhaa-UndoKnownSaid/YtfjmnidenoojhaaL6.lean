/- UndoKnown holds: the examples of the chapter, and the limits. -/
import Derived.Test.YtfjmnidenoojhaaSz
import Derived.Test.YtfjmnidenoojhaaOp
import Derived.Test.YtfjmnidenoojhaaRows
import Derived.Deep.CutRange
set_option linter.unusedVariables false
set_option linter.unusedSimpArgs false
namespace Go.Proofs.Ytfjmnidenoojhaa
open Go.RowKit
theorem new_o (x : Int) (w : World) (h : x < 0 ∨ 65536 < x) : Calls Try.prog 12 #[.int .i64 x] w fun e w' => e = .returned (.tuple #[.pointer none, .int .i64 2]) ∧ w = w' := by
  by_cases h0 : x < 0
  · have d1 : decide (x < 0) = true := by simp [h0]
    clear h h0
    go_enter Try.func12, Try.ntmps12
    go_wp2_with fail
    go_ret2
    exact ⟨rfl, rfl⟩
  · have d1 : decide (x < 0) = false := by simp; omega
    have d2 : decide ((65536 : Int) < x) = true := by simp; omega
    clear h h0
    go_enter Try.func12, Try.ntmps12
    go_wp2_with fail
    go_ret2
    exact ⟨rfl, rfl⟩
def kL : Nat → (Nat → Nat) × List (Nat → Nat) := tr (fun i => i) [] (fun k => [3, 4][k]?.getD 0) (fun k => [1, 3][k]?.getD 0)
def fA (i : Nat) : Nat := [0, 1, 2, 1, 1][i]?.getD 0
def fB (i : Nat) : Nat := [0, 1, 2, 1, 4][i]?.getD 0
theorem kA : ∀ i, i < 5 → (kL 2).1 i = fA i := by decide
theorem kB : ∀ i, i < 5 → atL (kL 2).1 (kL 2).2 1 i = fB i := by decide
def kV (i j : Nat) : Int := ([0, 1, 0, -1] : List Int)[i * 2 + j]?.getD 0
theorem mk33k (a b c d : Int) (w : World) : (Instr.buildSlice 33 2 #[(0, .agg #[.int .i64 a, .int .i64 b]), (1, .agg #[.int .i64 c, .int .i64 d])]).run Try.prog w = .ok (.slice (some ⟨w.heap.size, 0, none⟩) 2 2) (w.alloc (.cells #[.int .i64 a, .int .i64 b, .int .i64 c, .int .i64 d] 58)) := by kernel_rfl
theorem rows_k (w : World) : RowsI (w.alloc (.cells #[.int .i64 0, .int .i64 1, .int .i64 0, .int .i64 (-1)] 58)) (some ⟨w.heap.size, 0, none⟩) [.i64, .i64] 2 kV := by
  refine .inr ⟨w.heap.size, 0, rfl, by simp, fun i hi j k hj => ?_⟩
  rw [World.cell?_alloc_new]
  rcases (show i = 0 ∨ i = 1 by omega) with rfl | rfl <;> (rcases (show j = 0 ∨ j = 1 by have := (List.getElem?_eq_some_iff.1 hj).1; simp at this; omega) with rfl | rfl <;> (simp at hj; subst hj; exact ⟨by simp [kV], by decide⟩))
theorem no_k : ¬ ∀ k, k < 2 → goodP 5 kV k := by
  intro h
  have := h 1 (by omega)
  simp [goodP, kV] at this
theorem lit5 (a b c d e : Int) (w : World) : (Instr.buildSlice 49 5 #[(0, .int .i64 a), (1, .int .i64 b), (2, .int .i64 c), (3, .int .i64 d), (4, .int .i64 e)]).run Try.prog w = .ok (.slice (some ⟨w.heap.size, 0, none⟩) 5 5) (w.alloc (.cells #[.int .i64 a, .int .i64 b, .int .i64 c, .int .i64 d, .int .i64 e] 3)) := by kernel_rfl
theorem rowA (w : World) : (w.alloc (.cells #[.int .i64 0, .int .i64 1, .int .i64 2, .int .i64 1, .int .i64 1] 3)).ownsRow w.heap.size 3 1 (.slice (some ⟨w.heap.size, 0, none⟩) 5 5) 5 (intsF 5 fA) :=
  ⟨by simp [intsF], .inr ⟨w.heap.size, 5, #[.int .i64 0, .int .i64 1, .int .i64 2, .int .i64 1, .int .i64 1], rfl, Nat.le_refl _, heap_alloc_new _ _, Nat.le_refl _, by unfold maxLen; omega, by simp, by rfl⟩⟩
theorem rowB (w : World) : (w.alloc (.cells #[.int .i64 0, .int .i64 1, .int .i64 2, .int .i64 1, .int .i64 4] 3)).ownsRow w.heap.size 3 1 (.slice (some ⟨w.heap.size, 0, none⟩) 5 5) 5 (intsF 5 fB) :=
  ⟨by simp [intsF], .inr ⟨w.heap.size, 5, #[.int .i64 0, .int .i64 1, .int .i64 2, .int .i64 1, .int .i64 4], rfl, Nat.le_refl _, heap_alloc_new _ _, Nat.le_refl _, by unfold maxLen; omega, by simp, by rfl⟩⟩
theorem own_lt {own own' : List Nat} {B : Nat} {W : World} (h : ∀ x ∈ own, B ≤ x) (n : ∀ q ∈ own', q ∈ own ∨ W.heap.size ≤ q) (hB : B ≤ W.heap.size) : ∀ x ∈ own', B ≤ x := fun x hx => by
  rcases n x hx with h1 | h1
  · exact h x h1
  · omega
theorem cnt_c {L K : Nat → Nat} (i : Nat) : ∀ m, (∀ j, j < m → L j = K j) → cnt L i m = cnt K i m := by
  intro m
  induction m with
  | zero => intro _; rfl
  | succ m ih => intro h; simp only [cnt]; rw [ih (fun j hj => h j (by omega)), h m (by omega)]
theorem roots_c {L K : Nat → Nat} : ∀ m, (∀ j, j < m → L j = K j) → roots L m = roots K m := by
  intro m
  induction m with
  | zero => intro _; rfl
  | succ m ih => intro h; simp only [roots]; rw [ih (fun j hj => h j (by omega)), h m (by omega)]
theorem rowV_c {L K : Nat → Nat} {n : Nat} (h : ∀ j, j < n → L j = K j) : rowV L n = rowV K n := by
  have e : ∀ i, i < n → sz L n i = sz K n i := fun i hi => by unfold sz; rw [h i hi]; exact cnt_c _ n h
  unfold rowV
  rw [maxTo_congr e n (Nat.le_refl _), sumTo_congr e n (Nat.le_refl _), roots_c n h]
theorem rowKB : rowV (tr (atL (kL 2).1 (kL 2).2 1) ((kL 2).2.take 1) (fun _ => 0) (fun _ => 0) 0).1 5 = .agg #[.int .i64 2, .int .i64 4, .int .i64 7] := by
  rw [rowV_c (K := fB) (show ∀ j, j < 5 → (tr (atL (kL 2).1 (kL 2).2 1) ((kL 2).2.take 1) (fun _ => 0) (fun _ => 0) 0).1 j = fB j from kB)]
  kernel_rfl
namespace lawKnown
open Go.ChangeShapes Go.WideShapes Go.ChangeAt Go.RowKit Go.Joins
set_option maxRecDepth 100000 in
set_option maxHeartbeats 64000000 in
theorem walk (w : World) : Calls Try.prog 10 #[] w fun e w' => e = .returned (.bool true) ∧ Below w.heap.size w w' := by
  go_enter Try.func10, Try.ntmps10
  go_wp2_with fail
  refine (new_u 5 (by omega) _).mono ?_
  rintro e w1 ⟨b, own, rfl, U, lo, k⟩
  have HS := hide U
  have HO := hide lo
  have HK := hide k
  clear U lo k
  have Q := hide (union_u HS.out 3 1 (by omega) (by omega) HK.out.size)
  rw [show (!decide ((3 : Nat) = 1)) = true by decide] at Q
  go_wp2_with fail
  refine Q.out.mono ?_
  rintro e w2 ⟨rfl, own2, U2, k2, n2⟩
  have Y : Hid (US w.heap.size w2 b own2 5 (kL 1).1 (kL 1).2) := hide U2
  have X := hide (own_lt HO.out n2 HK.out.size)
  have Z := hide (HK.out.trans k2 (fun z hz => .inr (HO.out z hz)))
  clear HS HO HK Q U2 k2 n2; have HS := hide Y.out; have HO := hide X.out; have HK := hide Z.out; clear X Y Z
  have Q := hide (union_u HS.out 4 3 (by omega) (by omega) HK.out.size)
  rw [show (!decide ((kL 1).1 4 = (kL 1).1 3)) = true by decide] at Q
  go_wp2_with fail
  refine Q.out.mono ?_
  rintro e w3 ⟨rfl, own3, U2, k2, n2⟩
  have Y : Hid (US w.heap.size w3 b own3 5 (kL 2).1 (kL 2).2) := hide U2
  have X := hide (own_lt HO.out n2 HK.out.size)
  have Z := hide (HK.out.trans k2 (fun z hz => .inr (HO.out z hz)))
  clear HS HO HK Q U2 k2 n2; have HS := hide Y.out; have HO := hide X.out; have HK := hide Z.out; clear X Y Z
  have Q := hide (union_o HS.out 0 5 (by omega))
  go_wp2_with fail
  refine Q.out.mono ?_
  rintro e w' ⟨rfl, rfl⟩
  clear Q
  have Q := hide (labels_u HS.out)
  go_wp2_with fail
  refine Q.out.mono ?_
  rintro e w4 ⟨rfl, r, k⟩
  have RL := hide r
  obtain ⟨g, hg⟩ : ∃ g, g = w3.heap.size := ⟨_, rfl⟩
  obtain ⟨B0, R0⟩ : ∃ B0, Hid (w4.ownsRow B0 3 1 (.slice (some ⟨g, 0, none⟩) 5 5) 5 (intsF 5 (kL 2).1)) := ⟨_, by rw [hg]; exact RL⟩
  rw [← hg]
  have X := hide (HS.out.keep k (by simp)); clear HS; have HS := hide X.out; clear X
  have X := hide (HK.out.trans k (by simp)); clear HK; have HK := hide X.out; clear X
  clear Q r k RL hg
  have m1 := lit5 0 1 2 1 1 w4
  have ka := Kp.alloc (o := []) w4 (.cells #[.int .i64 0, .int .i64 1, .int .i64 2, .int .i64 1, .int .i64 1] 3)
  have SM := hide (same_rows _ 5 fA _ _ _ _ _ _ (show (w4.alloc (.cells #[.int .i64 0, .int .i64 1, .int .i64 2, .int .i64 1, .int .i64 1] 3)).ownsRow B0 3 1 (.slice (some ⟨g, 0, none⟩) 5 5) 5 (intsF 5 fA) by rw [← intsF_congr kA]; exact ka.row R0.out (by simp)) (rowA w4) (by omega))
  have X := hide (HS.out.keep ka (by simp)); clear HS; have HS := hide X.out; clear X
  have X := hide (HK.out.trans ka (by simp)); clear HK; have HK := hide X.out; clear X
  clear ka R0
  go_wp2_with fail
  refine SM.out.mono ?_
  rintro e w5 ⟨rfl, k⟩
  have X := hide (HS.out.keep k (by simp)); clear HS; have HS := hide X.out; clear X
  have X := hide (HK.out.trans k (by simp)); clear HK; have HK := hide X.out; clear X
  clear k SM m1
  have Q := hide (mark_u HS.out)
  rw [show (kL 2).2.length = 2 by decide] at Q
  go_wp2_with fail
  refine Q.out.mono ?_
  rintro e w' ⟨rfl, rfl⟩
  clear Q
  have Q := hide (count_u HS.out)
  rw [show roots (kL 2).1 5 = 3 by decide] at Q
  go_wp2_with fail
  refine Q.out.mono ?_
  rintro e w6 ⟨rfl, bb⟩
  have k := Kp.of_below (o := []) bb
  have X := hide (HS.out.keep k (by simp)); clear HS; have HS := hide X.out; clear X
  have X := hide (HK.out.trans k (by simp)); clear HK; have HK := hide X.out; clear X
  clear k bb Q
  have Q := hide (size_u HS.out 4 (by omega))
  rw [show cnt (kL 2).1 ((kL 2).1 4) 5 = 3 by decide] at Q
  go_wp2_with fail
  refine Q.out.mono ?_
  rintro e w7 ⟨rfl, bb⟩
  have k := Kp.of_below (o := []) bb
  have X := hide (HS.out.keep k (by simp)); clear HS; have HS := hide X.out; clear X
  have X := hide (HK.out.trans k (by simp)); clear HK; have HK := hide X.out; clear X
  clear k bb Q
  have Q := hide (copy_u HS.out)
  go_wp2_with fail
  refine Q.out.mono ?_
  rintro e w8 ⟨c, ownC, rfl, UC, k⟩
  have DC := hide (show (∀ x ∈ ownC, x ∉ own3) ∧ (∀ x ∈ own3, x ∉ ownC) from ⟨fun x hx hm => by have h1 := (UC.lt x hx).1; have h2 := (HS.out.lt x hm).2; omega, fun x hm hx => by have h1 := (UC.lt x hx).1; have h2 := (HS.out.lt x hm).2; omega⟩)
  have HOC := hide (show ∀ x ∈ ownC, w.heap.size ≤ x from fun x hx => by have h1 := (UC.lt x hx).1; have h2 := HK.out.size; omega)
  have HC := hide (UC.mono (show w.heap.size ≤ w7.heap.size from HK.out.size))
  have X := hide (HS.out.keep k (by simp)); clear HS; have HS := hide X.out; clear X
  have X := hide (HK.out.trans k (by simp)); clear HK; have HK := hide X.out; clear X
  clear k Q UC
  have Q := hide (undo_u HS.out 1 (by rw [show (kL 2).2.length = 2 by decide]; omega) HK.out.size)
  go_wp2_with fail
  refine Q.out.mono ?_
  rintro e w9 ⟨rfl, U2, k⟩
  have X := hide (HC.out.keep k DC.out.1); clear HC; have HC := hide X.out; clear X
  have X := hide (HK.out.trans k (fun z hz => .inr (HO.out z hz))); clear HK; have HK := hide X.out; clear X
  clear HS k Q; have HS := hide U2; clear U2
  have Q := hide (labels_u HS.out)
  go_wp2_with fail
  refine Q.out.mono ?_
  rintro e w10 ⟨rfl, r, k⟩
  have RL := hide r
  obtain ⟨g, hg⟩ : ∃ g, g = w9.heap.size := ⟨_, rfl⟩
  obtain ⟨B0, R0⟩ : ∃ B0, Hid (w10.ownsRow B0 3 1 (.slice (some ⟨g, 0, none⟩) 5 5) 5 (intsF 5 (atL (kL 2).1 (kL 2).2 1))) := ⟨_, by rw [hg]; exact RL⟩
  rw [← hg]
  have X := hide (HS.out.keep k (by simp)); clear HS; have HS := hide X.out; clear X
  have X := hide (HC.out.keep k (by simp)); clear HC; have HC := hide X.out; clear X
  have X := hide (HK.out.trans k (by simp)); clear HK; have HK := hide X.out; clear X
  clear Q r k RL hg
  have m1 := lit5 0 1 2 1 4 w10
  have ka := Kp.alloc (o := []) w10 (.cells #[.int .i64 0, .int .i64 1, .int .i64 2, .int .i64 1, .int .i64 4] 3)
  have SM := hide (same_rows _ 5 fB _ _ _ _ _ _ (show (w10.alloc (.cells #[.int .i64 0, .int .i64 1, .int .i64 2, .int .i64 1, .int .i64 4] 3)).ownsRow B0 3 1 (.slice (some ⟨g, 0, none⟩) 5 5) 5 (intsF 5 fB) by rw [← intsF_congr kB]; exact ka.row R0.out (by simp)) (rowB w10) (by omega))
  have X := hide (HS.out.keep ka (by simp)); clear HS; have HS := hide X.out; clear X
  have X := hide (HC.out.keep ka (by simp)); clear HC; have HC := hide X.out; clear X
  have X := hide (HK.out.trans ka (by simp)); clear HK; have HK := hide X.out; clear X
  clear ka R0
  go_wp2_with fail
  refine SM.out.mono ?_
  rintro e w11 ⟨rfl, k⟩
  have X := hide (HS.out.keep k (by simp)); clear HS; have HS := hide X.out; clear X
  have X := hide (HC.out.keep k (by simp)); clear HC; have HC := hide X.out; clear X
  have X := hide (HK.out.trans k (by simp)); clear HK; have HK := hide X.out; clear X
  clear k SM m1
  have Q := hide (labels_u HC.out)
  go_wp2_with fail
  refine Q.out.mono ?_
  rintro e w12 ⟨rfl, r, k⟩
  have RL := hide r
  obtain ⟨g, hg⟩ : ∃ g, g = w11.heap.size := ⟨_, rfl⟩
  obtain ⟨B0, R0⟩ : ∃ B0, Hid (w12.ownsRow B0 3 1 (.slice (some ⟨g, 0, none⟩) 5 5) 5 (intsF 5 (kL 2).1)) := ⟨_, by rw [hg]; exact RL⟩
  rw [← hg]
  have X := hide (HS.out.keep k (by simp)); clear HS; have HS := hide X.out; clear X
  have X := hide (HC.out.keep k (by simp)); clear HC; have HC := hide X.out; clear X
  have X := hide (HK.out.trans k (by simp)); clear HK; have HK := hide X.out; clear X
  clear Q r k RL hg
  have m1 := lit5 0 1 2 1 1 w12
  have ka := Kp.alloc (o := []) w12 (.cells #[.int .i64 0, .int .i64 1, .int .i64 2, .int .i64 1, .int .i64 1] 3)
  have SM := hide (same_rows _ 5 fA _ _ _ _ _ _ (show (w12.alloc (.cells #[.int .i64 0, .int .i64 1, .int .i64 2, .int .i64 1, .int .i64 1] 3)).ownsRow B0 3 1 (.slice (some ⟨g, 0, none⟩) 5 5) 5 (intsF 5 fA) by rw [← intsF_congr kA]; exact ka.row R0.out (by simp)) (rowA w12) (by omega))
  have X := hide (HS.out.keep ka (by simp)); clear HS; have HS := hide X.out; clear X
  have X := hide (HC.out.keep ka (by simp)); clear HC; have HC := hide X.out; clear X
  have X := hide (HK.out.trans ka (by simp)); clear HK; have HK := hide X.out; clear X
  clear ka R0
  go_wp2_with fail
  refine SM.out.mono ?_
  rintro e w13 ⟨rfl, k⟩
  have X := hide (HS.out.keep k (by simp)); clear HS; have HS := hide X.out; clear X
  have X := hide (HC.out.keep k (by simp)); clear HC; have HC := hide X.out; clear X
  have X := hide (HK.out.trans k (by simp)); clear HK; have HK := hide X.out; clear X
  clear k SM m1
  have Q := hide (undo_u HC.out 1 (by rw [show (kL 2).2.length = 2 by decide]; omega) HK.out.size)
  go_wp2_with fail
  refine Q.out.mono ?_
  rintro e w14 ⟨rfl, U2, k⟩
  have X := hide (HS.out.keep k DC.out.2); clear HS; have HS := hide X.out; clear X
  have X := hide (HK.out.trans k (fun z hz => .inr (HOC.out z hz))); clear HK; have HK := hide X.out; clear X
  clear HC k Q; have HC := hide U2; clear U2
  have Q := hide (labels_u HC.out)
  go_wp2_with fail
  refine Q.out.mono ?_
  rintro e w15 ⟨rfl, r, k⟩
  have RL := hide r
  obtain ⟨g, hg⟩ : ∃ g, g = w14.heap.size := ⟨_, rfl⟩
  obtain ⟨B0, R0⟩ : ∃ B0, Hid (w15.ownsRow B0 3 1 (.slice (some ⟨g, 0, none⟩) 5 5) 5 (intsF 5 (atL (kL 2).1 (kL 2).2 1))) := ⟨_, by rw [hg]; exact RL⟩
  rw [← hg]
  have X := hide (HS.out.keep k (by simp)); clear HS; have HS := hide X.out; clear X
  have X := hide (HC.out.keep k (by simp)); clear HC; have HC := hide X.out; clear X
  have X := hide (HK.out.trans k (by simp)); clear HK; have HK := hide X.out; clear X
  clear Q r k RL hg
  have m1 := lit5 0 1 2 1 4 w15
  have ka := Kp.alloc (o := []) w15 (.cells #[.int .i64 0, .int .i64 1, .int .i64 2, .int .i64 1, .int .i64 4] 3)
  have SM := hide (same_rows _ 5 fB _ _ _ _ _ _ (show (w15.alloc (.cells #[.int .i64 0, .int .i64 1, .int .i64 2, .int .i64 1, .int .i64 4] 3)).ownsRow B0 3 1 (.slice (some ⟨g, 0, none⟩) 5 5) 5 (intsF 5 fB) by rw [← intsF_congr kB]; exact ka.row R0.out (by simp)) (rowB w15) (by omega))
  have X := hide (HS.out.keep ka (by simp)); clear HS; have HS := hide X.out; clear X
  have X := hide (HC.out.keep ka (by simp)); clear HC; have HC := hide X.out; clear X
  have X := hide (HK.out.trans ka (by simp)); clear HK; have HK := hide X.out; clear X
  clear ka R0
  go_wp2_with fail
  refine SM.out.mono ?_
  rintro e w16 ⟨rfl, k⟩
  have X := hide (HS.out.keep k (by simp)); clear HS; have HS := hide X.out; clear X
  have X := hide (HC.out.keep k (by simp)); clear HC; have HC := hide X.out; clear X
  have X := hide (HK.out.trans k (by simp)); clear HK; have HK := hide X.out; clear X
  clear k SM m1
  clear HC HOC DC
  have Q := hide (trial_t HS.out (s := none) (len := 0) (cap := 0) (V := kV) (.inl rfl) (by omega) HK.out.size (fun bb off sp h => absurd h (by omega)) (fun _ => 0) (fun _ => 0) (fun k hk => absurd hk (by omega)))
  rw [show rowV (tr (atL (kL 2).1 (kL 2).2 1) ((kL 2).2.take 1) (fun _ => 0) (fun _ => 0) 0).1 5 = .agg #[.int .i64 2, .int .i64 4, .int .i64 7] from rowKB] at Q
  go_wp2_with fail
  refine Q.out.mono ?_
  rintro e w17 ⟨rfl, ownS, U2, k, n2⟩
  have X := hide (own_lt HO.out n2 HK.out.size); have Z := hide (HK.out.trans k (fun z hz => .inr (HO.out z hz))); clear HS HO HK Q k n2; have HS := hide U2; have HO := hide X.out; have HK := hide Z.out; clear X Z U2
  have ka := Kp.alloc (o := []) w17 (.cells #[.int .i64 2, .int .i64 4, .int .i64 7] 40)
  have X := hide (HS.out.keep ka (by simp)); clear HS; have HS := hide X.out; clear X
  have X := hide (HK.out.trans ka (by simp)); clear HK; have HK := hide X.out; clear X
  have HR : Hid ((w17.alloc (.cells #[.int .i64 2, .int .i64 4, .int .i64 7] 40)).heap[w17.heap.size]? = some (.cells #[.int .i64 2, .int .i64 4, .int .i64 7] 40 (0, 0))) := heap_alloc_new _ _
  obtain ⟨rb, hrb⟩ : ∃ r, r = w17.heap.size := ⟨_, rfl⟩
  rw [← hrb] at HR
  clear ka
  obtain ⟨v1, hv1⟩ : ∃ v, v = w17.alloc (.cells #[.int .i64 2, .int .i64 4, .int .i64 7] 40) := ⟨_, rfl⟩
  rw [← hv1] at HS HK HR
  have b1 := buildP 0 1 v1; have b2 := buildP 0 (-1) v1; have m1 := mk33k 0 1 0 (-1) v1
  have ka := Kp.alloc (o := []) v1 (.cells #[.int .i64 0, .int .i64 1, .int .i64 0, .int .i64 (-1)] 58)
  have X := hide (HS.out.keep ka (by simp)); clear HS; have HS := hide X.out; clear X
  have X := hide (ka.blk HR.out (by simp)); clear HR; have HR := hide X.out; clear X
  have X := hide (HK.out.trans ka (by simp)); clear HK; have HK := hide X.out; clear X
  clear ka
  have Q := hide (trial_o HS.out (rows_k v1) (cap := 2) (by omega) no_k)
  have hsz : v1.heap.size = rb + 1 := by rw [hv1, hrb]; simp
  rw [hv1] at b1 b2 m1 Q
  go_wp2_with fail
  rw [← hv1] at Q ⊢
  rw [← hrb]
  rw [hsz] at Q
  clear b1 b2 m1 hv1 hrb hsz
  refine Q.out.mono ?_
  unfold rowZ
  rintro e w18 ⟨rfl, k⟩
  have X := hide (HS.out.keep k (by simp)); clear HS; have HS := hide X.out; clear X
  have X := hide (k.blk HR.out (by simp)); clear HR; have HR := hide X.out; clear X
  have X := hide (HK.out.trans k (by simp)); clear HK; have HK := hide X.out; clear X
  clear k Q
  have ka := Kp.alloc (o := []) w18 (.cells #[.int .i64 0, .int .i64 0, .int .i64 0] 40)
  have X := hide (HS.out.keep ka (by simp)); clear HS; have HS := hide X.out; clear X
  have X := hide (ka.blk HR.out (by simp)); clear HR; have HR := hide X.out; clear X
  have X := hide (HK.out.trans ka (by simp)); clear HK; have HK := hide X.out; clear X
  clear ka
  have Q := fun W => hide (new_u 0 (by omega) W)
  go_wp2_with fail
  generalize w18.alloc (.cells #[.int .i64 0, .int .i64 0, .int .i64 0] 40) = v2 at *
  refine (Q _).out.mono ?_
  rintro e w19 ⟨be, ownE, rfl, UE, lo, k⟩
  have HOE := hide (show ∀ x ∈ ownE, w.heap.size ≤ x from fun x hx => Nat.le_trans HK.out.size (lo x hx))
  have DE := hide (show ∀ x ∈ ownS, x ∉ ownE from fun x hm hx => by have h1 := lo x hx; have h2 := (HS.out.lt x hm).2; omega)
  have DR := hide (show rb ∉ ownE from fun hx => by have h1 := lo rb hx; have h2 := lt_of_blk HR.out; omega)
  have HE := hide (UE.mono HK.out.size)
  have X := hide (HS.out.keep k (by simp)); clear HS; have HS := hide X.out; clear X
  have X := hide (k.blk HR.out (by simp)); clear HR; have HR := hide X.out; clear X
  have X := hide (HK.out.trans k (by simp)); clear HK; have HK := hide X.out; clear X
  clear k lo UE Q
  go_wp2_with fail
  refine (new_o (-1) _ (by omega)).mono ?_
  rintro e w' ⟨rfl, rfl⟩
  have Q := hide (new_u 65536 (by omega) w19)
  go_wp2_with fail
  refine Q.out.mono ?_
  rintro e w20 ⟨bg, ownG, rfl, UG, lo, k⟩
  have DG := hide (show ∀ x ∈ ownG, x ∉ ownE from fun x hx hm => by have h1 := lo x hx; have h2 := (HE.out.lt x hm).2; omega)
  have HG := hide (UG.mono HK.out.size)
  have X := hide (HS.out.keep k (by simp)); clear HS; have HS := hide X.out; clear X
  have X := hide (HE.out.keep k (by simp)); clear HE; have HE := hide X.out; clear X
  have X := hide (k.blk HR.out (by simp)); clear HR; have HR := hide X.out; clear X
  have X := hide (HK.out.trans k (by simp)); clear HK; have HK := hide X.out; clear X
  clear k lo UG Q
  go_wp2_with fail
  refine (new_o 65537 _ (by omega)).mono ?_
  rintro e w' ⟨rfl, rfl⟩
  have z0 : w20.cell? ⟨rb, 0, none⟩ = some (.int .i64 2) := by simp [cell_of_blk HR.out]
  have z1 : w20.cell? ⟨rb, 1, none⟩ = some (.int .i64 4) := by simp [cell_of_blk HR.out]
  have z2 : w20.cell? ⟨rb, 2, none⟩ = some (.int .i64 7) := by simp [cell_of_blk HR.out]
  have bq := fun (W : World) => (show (Instr.build 40 #[(0, .int .i64 2), (1, .int .i64 4), (2, .int .i64 7)]).run Try.prog W = .ok (.agg #[.int .i64 2, .int .i64 4, .int .i64 7]) W by kernel_rfl)
  have Q := hide (count_u HE.out)
  rw [show roots (fun i => i) 0 = 0 from rfl] at Q
  go_wp2_with fail
  refine Q.out.mono ?_
  rintro e w21 ⟨rfl, bb⟩
  have k := Kp.of_below (o := []) bb
  have X := hide (HS.out.keep k (by simp)); clear HS; have HS := hide X.out; clear X
  have X := hide (HE.out.keep k (by simp)); clear HE; have HE := hide X.out; clear X
  have X := hide (HG.out.keep k (by simp)); clear HG; have HG := hide X.out; clear X
  have X := hide (k.blk HR.out (by simp)); clear HR; have HR := hide X.out; clear X
  have X := hide (HK.out.trans k (by simp)); clear HK; have HK := hide X.out; clear X
  clear k bb Q
  clear bq z0 z1 z2 HR
  have Q := hide (trial_t HE.out (s := none) (len := 0) (cap := 0) (V := kV) (.inl rfl) (by omega) HK.out.size (fun bb off sp h => absurd h (by omega)) (fun _ => 0) (fun _ => 0) (fun k hk => absurd hk (by omega)))
  rw [show rowV (tr (fun i => i) [] (fun _ => 0) (fun _ => 0) 0).1 0 = .agg #[.int .i64 0, .int .i64 0, .int .i64 0] by kernel_rfl] at Q
  go_wp2_with fail
  refine Q.out.mono ?_
  rintro e w22 ⟨rfl, ownE2, U2, k, n2⟩
  have X := hide (HS.out.keep k DE.out); clear HS; have HS := hide X.out; clear X
  have X := hide (HG.out.keep k DG.out); clear HG; have HG := hide X.out; clear X
  have X := hide (HK.out.trans k (fun z hz => .inr (HOE.out z hz))); clear HK; have HK := hide X.out; clear X
  clear HE k n2 U2 Q DE DG DR
  have ka := Kp.alloc (o := []) w22 (.cells #[.int .i64 0, .int .i64 0, .int .i64 0] 40)
  have X := hide (HS.out.keep ka (by simp)); clear HS; have HS := hide X.out; clear X
  have X := hide (HG.out.keep ka (by simp)); clear HG; have HG := hide X.out; clear X
  have X := hide (HK.out.trans ka (by simp)); clear HK; have HK := hide X.out; clear X
  clear ka
  have bz := fun (W : World) => build40z W
  have Q := hide (count_u HG.out)
  rw [roots_id] at Q
  go_wp2_with fail
  refine Q.out.mono ?_
  rintro e w23 ⟨rfl, bb⟩
  have k := Kp.of_below (o := []) bb
  have X := hide (HS.out.keep k (by simp)); clear HS; have HS := hide X.out; clear X
  have X := hide (HG.out.keep k (by simp)); clear HG; have HG := hide X.out; clear X
  have X := hide (HK.out.trans k (by simp)); clear HK; have HK := hide X.out; clear X
  clear k bb Q
  have Q := hide (undo_o HS.out (-1) (.inl (by omega)))
  go_wp2_with fail
  refine Q.out.mono ?_
  rintro e w' ⟨rfl, rfl⟩
  clear Q bz
  go_wp2_with fail
  refine (works _).mono ?_
  rintro e w24 ⟨rfl, bw⟩
  have X := hide ((below_kp HK.out).trans (bw.mono HK.out.size))
  clear bw
  go_wp2_with fail
  go_ret
  exact ⟨rfl, X.out⟩
theorem own : ownKnob Try.prog.godebug = none := by kernel_rfl
theorem laidOut : laidOutB Try.prog = true := by kernel_rfl
set_option maxRecDepth 100000 in
theorem lifted (os : Os) (started : os.Started) (H : Type) (enc : TypeId × Value → H) :
    ReturnsInHanded {} Try.checked os 10 .any (Rows.undoKnownSpec.pre6 enc Try.prog Try.f10 Rows.undoKnownRow.domain false) (Rows.undoKnownSpec.post enc Try.prog Try.f10 false true false false) := by
  refine returnsInHanded_of_change (C := Try.checked) own started (by kernel_rfl) Try.func10
    (ChangeSpec.witness6 (enc := enc) (C := Try.checked) false ⟨#[], #[], []⟩ 8 (by kernel_rfl) (by kernel_rfl) (by kernel_rfl) (by kernel_rfl)) ?_
  intro W base args ds gs before hval0 hW hcnd _
  have hval : ∀ (j : Nat) t v, Try.f10.params[j]? = some t → args[j]? = some v → Value.okWide Try.prog W .any base t v := hval0
  have hW' := hW
  obtain ⟨p, q, hA0, hV, rfl, hfz, hnd⟩ := hW
  have hA : DataW.TrodAll enc Try.prog W 0 (fun _ => true) true Try.f10.params.toList args.toList ds p := hA0
  rw [Try.params10] at hA hval
  obtain ⟨hargs, rfl, rfl⟩ := trodAll_none hA
  obtain rfl : args = #[] := by cases args; simp_all
  obtain ⟨rfl, rfl⟩ := trodVars_none hV
  clear hA0 hval0
  refine (walk W).mono fun e W' ⟨he, bel⟩ => ?_
  subst he
  exact ⟨_, rfl, _, _, _, [], _, [], hW', trodAll_mk1 (shut_bool Try.underlying4 _), trodAll_mk0, rfl, bel.frame _, fun h => by cases h⟩
theorem holds : Rows.undoKnownRow.holds Try.pinned (OpenSpec.ofChange Rows.undoKnownSpec) :=
  OpenClaim.holds_of_wide 10 Try.f10 rfl rfl rfl rfl rfl rfl rfl ⟨rfl, rfl, rfl, rfl, rfl⟩ rfl rfl rfl rfl rfl (by kernel_rfl) Try.func10 (by kernel_rfl)
    (of_decide_eq_true (by kernel_rfl)) (by unfold Func.isWrapper; first | (rw [if_pos (by decide +kernel)]; kernel_rfl) | (rw [if_neg (by decide +kernel)]; exact ⟨rfl, rfl⟩))
    (fun os started H enc _ => lifted os started H enc)
theorem proved : Rows.UndoKnownSaid := holds
end lawKnown
end Go.Proofs.Ytfjmnidenoojhaa
