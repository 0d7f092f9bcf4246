/- A copy as a row; Less of a known key; what is known of the sorted list. -/
import Derived.Test.YtiebmjdclicheaaMY
set_option linter.unusedVariables false
set_option linter.unusedSimpArgs false
namespace Go.Proofs.Ytiebmjdclicheaa
open Go.RowKit

set_option maxRecDepth 100000 in
set_option maxHeartbeats 2000000 in
theorem copied_o {w : World} {v : Value} {l : List R4} (h : HR w v l) (hn : l.length ≤ 65536) :
    Calls Try.prog 15 #[v] w fun e w' => ∃ v', e = .returned v' ∧ w'.ownsRow w.heap.size 24 4 v' l.length (rows l) ∧ Kp [] w w' := by
  have H := hide (h.keep (Kp.alloc w (.cells #[] 24)))
  have HN := hide hn
  have R0 := hide (World.ownsRow_made (base := w.heap.size) (e := 24) (size := 4) w #[] 0 (Nat.le_refl _) (Nat.zero_le _) rfl)
  clear h hn
  go_enter Try.func15, Try.ntmps15
  go_wp2_with (first | refine wpList_mkzS rfl rfl ?_ | (refine wpList_app rfl _ _ rfl w.heap.size (.slice (some ⟨w.heap.size, 0, none⟩) 0 0) v [] l rfl rfl R0.out H.out (by have := HN.out; simp; omega) (by simp) ?_))
  intro v' w' ho hg
  have HO : Hid (w'.ownsRow w.heap.size 24 4 v' l.length (rows l)) := by
    try rw [List.nil_append] at ho
    exact ho
  have HK : Hid (Kp [] w w') := (Kp.alloc w (.cells #[] 24)).grown hg (fun x hx => by simp [Value.ownBlock] at hx; omega)
  clear ho hg
  go_wp2_with fail
  go_ret
  exact ⟨_, rfl, HO.out, HK.out⟩
theorem less_h (a b : R4) {k : Int} (hk : KOK k) (w : World) : Calls Try.prog 12 #[a.val, b.val, .int .i64 k] w fun e w' => e = .returned (.tuple #[.bool (bef k a b), .int .i64 0]) ∧ Kp [] w w' := by
  have h := lessP_t a b k w
  have e1 : lessA k a b = bef k a b := by unfold lessA; exact if_pos hk
  have e2 : lessE k = 0 := by unfold lessE; exact if_pos hk
  rw [e1, e2] at h
  exact h
theorem permA_nodup (k : Int) (l : List R4) : (permA k l).Nodup := by
  by_cases h : chk l.length k = 0
  · rw [permA_ok h]
    refine (srt_perm (bf := bfI k l) _ _).nodup_iff.2 ?_
    unfold idx
    exact List.Pairwise.map _ (fun a b h e => h (by exact_mod_cast e)) List.nodup_range
  · rw [permA_no h]; exact List.Pairwise.nil
/-- elements that are equal in the order stay in their order -/
theorem St.keeps {α : Type} {bf : α → α → Bool} (hw : Weak bf) {R : α → α → Prop} {s l : List α} (h : St bf s l) (hR : l.Pairwise R) {i j : Nat} {a b : α} (hij : i < j) (ha : s[i]? = some a) (hb : s[j]? = some b) (e : eqv bf a b = true) : R a b := by
  have h1 : (l.filter (eqv bf a)).Pairwise R := hR.filter _
  rw [← h.2 a, List.pairwise_filter] at h1
  obtain ⟨hi, rfl⟩ := List.getElem?_eq_some_iff.1 ha
  obtain ⟨hj, rfl⟩ := List.getElem?_eq_some_iff.1 hb
  exact List.pairwise_iff_getElem.1 h1 i j hi hj hij (eqv_self hw _) e
theorem idx_pair (n : Nat) : (idx n).Pairwise (· < ·) := by
  unfold idx
  exact List.Pairwise.map _ (fun a b h => by exact_mod_cast h) List.pairwise_lt_range
/-- neighbours in the sorted list -/
theorem perm_next {k : Int} {l : List R4} (h0 : chk l.length k = 0) {i : Nat} {x y : Nat} (hx : (permA k l)[i]? = some (x : Int)) (hy : (permA k l)[i + 1]? = some (y : Int)) :
    bef k (l.getD y zz) (l.getD x zz) = false ∧ (bef k (l.getD x zz) (l.getD y zz) = false → x < y) := by
  have S := srt_st (bfI_weak k l) l.length (idx l.length) (by rw [idx_len]; exact Nat.le_refl _)
  rw [← permA_ok h0] at S
  have q1 := ord_at S.1 (Nat.lt_succ_self i) hx hy
  have e1 : bfI k l (y : Int) (x : Int) = bef k (l.getD y zz) (l.getD x zz) := by simp [bfI]
  have e2 : bfI k l (x : Int) (y : Int) = bef k (l.getD x zz) (l.getD y zz) := by simp [bfI]
  refine ⟨by rw [← e1]; exact q1, fun q => ?_⟩
  have := S.keeps (bfI_weak k l) (idx_pair l.length) (Nat.lt_succ_self i) hx hy (eqv_iff.2 ⟨by rw [e2]; exact q, q1⟩)
  omega
theorem sortA_perm {k : Int} {l : List R4} (h : chk l.length k = 0) : (sortA k l).Perm l := by rw [sortA_ok h]; exact srt_perm _ _
/-- exchanging two neighbours -/
theorem inv_swap {α : Type} (bf : α → α → Bool) (A B : List α) (a b : α) (h : ¬ (bf a b = true ∧ bf b a = true)) : (inv bf (A ++ b :: a :: B) : Int) = (inv bf (A ++ a :: b :: B) : Int) + (if bf a b = true then 1 else 0) - (if bf b a = true then 1 else 0) := by
  have e1 : inv bf (A ++ b :: a :: B) = inv bf A + inv bf (b :: a :: B) + cross bf A (b :: a :: B) := inv_app _ _
  have e2 : inv bf (A ++ a :: b :: B) = inv bf A + inv bf (a :: b :: B) + cross bf A (a :: b :: B) := inv_app _ _
  have e3 : cross bf A (b :: a :: B) = cross bf A (a :: b :: B) := cross_perm2 A (List.Perm.swap _ _ _)
  have e4 : inv bf (b :: a :: B) = (a :: B).countP (fun y => bf y b) + (B.countP (fun y => bf y a) + inv bf B) := rfl
  have e5 : inv bf (a :: b :: B) = (b :: B).countP (fun y => bf y a) + (B.countP (fun y => bf y b) + inv bf B) := rfl
  rw [List.countP_cons] at e4 e5
  rw [e1, e2, e3, e4, e5]
  split <;> split <;> simp_all <;> omega
theorem HR.rd {w : World} {p : Option Addr} {n c : Nat} {l : List R4} (h : HR w (.slice p n c) l) : RdR w p l := by
  obtain ⟨p', c', he, _, hr⟩ := h
  injection he with h1 h2 h3
  subst h1
  exact hr
theorem rows_swap (A B : List R4) (x y : R4) {i : Nat} (hi : A.length = i) :
    ((((((((rows (A ++ x :: y :: B)).set (i * 4) (.int .u64 y.u)).set (i * 4 + 1) (.int .u64 y.v)).set (i * 4 + 2) (.int .i64 y.w)).set (i * 4 + 3) (.int .i64 y.t)).set ((i + 1) * 4) (.int .u64 x.u)).set ((i + 1) * 4 + 1) (.int .u64 x.v)).set ((i + 1) * 4 + 2) (.int .i64 x.w)).set ((i + 1) * 4 + 3) (.int .i64 x.t) = rows (A ++ y :: x :: B) := by
  have e1 : ∀ p q : R4, rows (A ++ p :: q :: B) = rows A ++ (.int .u64 p.u :: .int .u64 p.v :: .int .i64 p.w :: .int .i64 p.t :: .int .u64 q.u :: .int .u64 q.v :: .int .i64 q.w :: .int .i64 q.t :: rows B) := by
    intro p q; simp [rows, R4.cells]
  have hl : (rows A).length = i * 4 := by rw [rows_len, hi]
  have e2 : (i + 1) * 4 = i * 4 + 4 := by omega
  rw [e1 x y, e1 y x, e2]
  obtain ⟨m, hm⟩ : ∃ m, m = i * 4 := ⟨_, rfl⟩
  rw [← hm] at hl ⊢
  have s : ∀ (j : Nat) (C : List Value) (v : Value), (rows A ++ C).set (m + j) v = rows A ++ C.set j v := by
    intro j C v
    rw [List.set_append_right _ _ (by omega), hl, Nat.add_sub_cancel_left]
  have s0 : ∀ (C : List Value) (v : Value), (rows A ++ C).set m v = rows A ++ C.set 0 v := s 0
  simp only [Nat.add_assoc, Nat.reduceAdd, s0, s, List.set_cons_zero, List.set_cons_succ]
theorem inO_eq (k : Int) (l : List R4) : (((inv (bef k) l : Nat) : Int) == 0) = inO k l := by
  unfold inO
  generalize inv (bef k) l = n
  rw [Bool.eq_iff_iff, beq_iff_eq, beq_iff_eq]
  omega
theorem split_two {l : List R4} {i : Nat} (h : i + 1 < l.length) : ∃ (A B : List R4) (x y : R4), l = A ++ x :: y :: B ∧ A.length = i := by
  have h1 : i < l.length := by omega
  refine ⟨l.take i, l.drop (i + 1 + 1), l[i], l[i + 1], ?_, by rw [List.length_take]; omega⟩
  rw [← List.drop_eq_getElem_cons h, ← List.drop_eq_getElem_cons h1, List.take_append_drop]
end Go.Proofs.Ytiebmjdclicheaa
