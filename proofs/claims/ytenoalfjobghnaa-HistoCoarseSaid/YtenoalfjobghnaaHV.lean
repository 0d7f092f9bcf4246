/- slices.Delete of one number. -/
import Derived.Test.YtenoalfjobghnaaHU
import Derived.Lib.SliceRun
set_option linter.unusedVariables false
set_option linter.unusedSimpArgs false
namespace Go.Proofs.Ytenoalfjobghnaa
open Go.RowKit

def puts : List Value → Nat → List Value → List Value
  | xs, _, [] => xs
  | xs, o, v :: r => puts (xs.set o v) (o + 1) r
theorem puts_len : ∀ (vs : List Value) (xs : List Value) (o : Nat), (puts xs o vs).length = xs.length
  | [], _, _ => rfl
  | v :: r, xs, o => by rw [puts, puts_len r]; simp
theorem puts_get : ∀ (vs : List Value) (xs : List Value) (o j : Nat), (puts xs o vs)[j]? = if o ≤ j ∧ j < o + vs.length ∧ j < xs.length then vs[j - o]? else xs[j]?
  | [], xs, o, j => by rw [puts, if_neg (by simp; omega)]
  | v :: r, xs, o, j => by
    rw [puts, puts_get r]
    by_cases h : o + 1 ≤ j ∧ j < o + 1 + r.length ∧ j < (xs.set o v).length
    · rw [if_pos h, if_pos (by simp at h ⊢; omega), show j - o = (j - (o + 1)) + 1 by omega]; rfl
    · rw [if_neg h]
      by_cases e : j = o
      · subst e
        by_cases q : j < xs.length
        · rw [if_pos (by simp; omega)]; simp [q]
        · rw [if_neg (by omega)]; simp [q]
      · rw [List.getElem?_set_ne (Ne.symm e), if_neg (by simp at h ⊢; omega)]
theorem row_puts {B e n c g : Nat} : ∀ (vs : List Value) (o : Nat) (w : World) (xs : List Value), w.ownsRow B e 1 (.slice (some ⟨g, 0, none⟩) n c) n xs → (w.setCells g o vs).ownsRow B e 1 (.slice (some ⟨g, 0, none⟩) n c) n (puts xs o vs)
  | [], _, _, _, h => h
  | v :: r, o, w, xs, h => row_puts r (o + 1) _ _ (row_put h o v)
theorem Kp.sets {g : Nat} : ∀ (vs : List Value) (o : Nat) (w : World), Kp [g] w (w.setCells g o vs)
  | [], _, w => Kp.refl _ _
  | v :: r, o, w => (Kp.set w ⟨g, o, none⟩ v (by simp)).trans (Kp.sets r (o + 1) _) (fun x hx => .inl hx)
/-- without number i -/
def cut (f : Nat → Int) (i : Nat) : Nat → Int := fun j => if j < i then f j else f (j + 1)
def tail1 (n : Nat) (f : Nat → Int) (i : Nat) : List Value := (List.range (n - i)).map fun t => Value.int .i64 (f (i + t))
theorem tail1_len (n : Nat) (f : Nat → Int) (i : Nat) : (tail1 n f i).length = n - i := by simp [tail1]
theorem tail1_get {n : Nat} (f : Nat → Int) {i t : Nat} (h : t < n - i) : (tail1 n f i)[t]? = some (.int .i64 (f (i + t))) := by simp [tail1, h]
theorem cut_list (n : Nat) (f : Nat → Int) (i : Nat) (hi : i < n) (zs : List Value) : (puts (puts (intsI n f) i (tail1 n f (i + 1))) (n - 1) zs).take (n - 1) = intsI (n - 1) (cut f i) := by
  apply List.ext_getElem?
  intro j
  by_cases hj : j < n - 1
  · rw [List.getElem?_take_of_lt hj, puts_get, if_neg (by omega), puts_get, intsI_get _ hj, intsI_len]
    unfold cut
    by_cases h : j < i
    · rw [if_neg (by omega), intsI_get _ (by omega), if_pos h]
    · rw [if_pos (by rw [tail1_len]; omega), tail1_get f (by omega), if_neg h, show i + 1 + (j - i) = j + 1 by omega]
  · rw [List.getElem?_eq_none (by simp; omega), List.getElem?_eq_none (by rw [intsI_len]; omega)]
set_option maxRecDepth 1000000 in
set_option maxHeartbeats 4000000 in
theorem delete_t {B : Nat} {w : World} {g n c i : Nat} {f : Nat → Int} (R : w.ownsRow B 2 1 (.slice (some ⟨g, 0, none⟩) n c) n (intsI n f)) (hi : i < n) (hn : n ≤ 65536) :
    Calls Try.prog 49 #[.slice (some ⟨g, 0, none⟩) n c, .int .i64 (i : Int), .int .i64 ((i + 1 : Nat) : Int)] w fun e w' => e = .returned (.slice (some ⟨g, 0, none⟩) (n - 1) c) ∧ w'.ownsRow B 2 1 (.slice (some ⟨g, 0, none⟩) (n - 1) c) (n - 1) (intsI (n - 1) (cut f i)) ∧ Kp [g] w w' := by
  obtain ⟨i0, hi0, hz0, hz1, hz2⟩ := infoParts infoI
  have hnc : n ≤ c ∧ c ≤ maxLen := by
    rcases R.2 with ⟨he, _⟩ | ⟨g', cap, cur, he, _, _, h1, h2, _⟩
    · cases he
    · injection he with _ _ h; subst h; exact ⟨h1, h2⟩
  unfold maxLen at hnc
  obtain ⟨i1, hi1⟩ : ∃ x, x = i + 1 := ⟨_, rfl⟩
  obtain ⟨mm, hmm⟩ : ∃ x, x = n - i1 := ⟨_, rfl⟩
  rw [← hi1]
  have cells : ∀ j, j < n → w.cell? ⟨g, j, none⟩ = some (.int .i64 (f j)) := fun j hj => by
    have := R.cellAt j (by omega)
    rw [intsI_get f hj] at this
    simpa using this
  have free : ∀ j, w.frozen? ⟨g, j, none⟩ = false := fun j => by have := R.frozenAt j; simpa using this
  obtain ⟨news, hnews⟩ : ∃ x, x = tail1 n f i1 := ⟨_, rfl⟩
  have hlen : news.length = mm := by rw [hnews, tail1_len, hmm]
  obtain ⟨A, hA, hsrc⟩ : ∃ A : Addr, (if c = i1 then some (⟨g, 0, none⟩ : Addr) else some ⟨g, i1, none⟩) = some A ∧ Hid (∀ t u, news[t]? = some u → w.drew.cell? (A.add t) = some u) := by
    by_cases h : c = i1
    · refine ⟨⟨g, 0, none⟩, by simp [h], fun t u hu => ?_⟩
      have h0 : news.length = 0 := by rw [hlen]; omega
      rw [List.length_eq_zero_iff.1 h0] at hu
      simp at hu
    · refine ⟨⟨g, i1, none⟩, by simp [h], fun t u hu => ?_⟩
      have ht : t < n - i1 := by
        have := (List.getElem?_eq_some_iff.1 hu).1
        rw [hlen] at this; omega
      rw [hnews, tail1_get f ht] at hu
      rw [Addr.add_lit]
      exact (cells (i1 + t) (by omega)).trans hu
  have s1 : Hid (news.length = mm * 1) := by rw [Nat.mul_one]; exact hlen
  have s2 : Hid (∀ u ∈ news, u.oneCell' = true) := by
    intro u hu
    rw [hnews] at hu
    simp [tail1] at hu
    obtain ⟨x, _, rfl⟩ := hu
    rfl
  have s3 : Hid (∀ t, t < news.length → (w.drew.cell? ⟨g, 0 + i * 1 + t, none⟩).isSome = true ∧ w.drew.frozen? ⟨g, 0 + i * 1 + t, none⟩ = false) := by
    intro t ht
    rw [hlen] at ht
    refine ⟨?_, free _⟩
    have := cells (0 + i * 1 + t) (by omega)
    show (w.cell? _).isSome = true
    rw [this]; rfl
  obtain ⟨W1, hW1⟩ : ∃ W1, W1 = w.drew.setCells g (0 + i * 1) news := ⟨_, rfl⟩
  have R1 : W1.ownsRow B 2 1 (.slice (some ⟨g, 0, none⟩) n c) n (puts (intsI n f) i news) := by
    rw [hW1, show 0 + i * 1 = i by omega]
    exact row_puts news i _ _ ((Kp.drewN [] w 1).row R (by simp))
  have last : n - (i + mm) = 1 := by omega
  have cells1 : (W1.cell? ⟨g, i + mm, none⟩).isSome = true := by
    have := R1.cellAt (i + mm) (by omega)
    rw [this, puts_get]
    split
    · rw [hnews]; rw [tail1_get f (by omega)]; rfl
    · rw [intsI_get _ (by omega)]; rfl
  have free1 : W1.frozen? ⟨g, i + mm, none⟩ = false := by have := R1.frozenAt (i + mm); simpa using this
  have hcl : ∀ ty, (Builtin.clear_ #[22] ty #[.slice (some ⟨g, i + mm, none⟩) (n - (i + mm)) (c - (i + mm))]).run Try.prog W1 = .ok (.tuple #[]) (W1.setCells g (i + mm) (List.replicate (n - (i + mm)) (.int .i64 0))) :=
    fun ty => Lib.run_clear_slice W1 _ _ ty _ Try.underlying22 Try.zeroValue2 rfl rfl g (i + mm) _ _ (by omega) (fun t ht => by rw [show t = 0 by omega]; exact cells1) (fun t ht => by rw [show t = 0 by omega]; exact free1)
  have FIN : Hid ((W1.setCells g (i + mm) (List.replicate (n - (i + mm)) (.int .i64 0))).ownsRow B 2 1 (.slice (some ⟨g, 0, none⟩) (n - 1) c) (n - 1) (intsI (n - 1) (cut f i))) := by
    have r2 := row_puts (List.replicate (n - (i + mm)) (.int .i64 0)) (i + mm) W1 _ R1
    have r3 := row_take r2 (m := n - 1) (by omega) (by simp)
    rw [hnews, hi1, show i + mm = n - 1 by omega, cut_list n f i hi] at r3
    rw [show i + mm = n - 1 by omega]
    exact r3
  have FK : Hid (Kp [g] w (W1.setCells g (i + mm) (List.replicate (n - (i + mm)) (.int .i64 0)))) := by
    rw [hW1]
    exact ((Kp.drewN [g] w 1).trans (Kp.sets news _ _) (fun x hx => .inl hx)).trans (Kp.sets _ _ _) (fun x hx => .inl hx)
  have hW : Hid (W1 = w.drew.setCells g (0 + i * 1) news) := hW1
  have l1 : i + mm < c := by omega
  have l2 : i + mm ≤ n := by omega
  have l3 : n ≤ c := hnc.1
  have l4 : i ≤ c := by omega
  have l5 : i1 ≤ c := by omega
  have l6 : i ≤ i1 := by omega
  have l7 : i1 ≤ n := by omega
  have l8 : c ≤ 9223372036854775807 := hnc.2
  have l9 : i < i1 := by omega
  have dE : ((i : Int) == (i1 : Int)) = false := by simp; omega
  have nm : Hid (n - i1 = mm) := hmm.symm
  have FL := hide (show n - 1 = i + mm by omega)
  have nm' : n - i1 = mm := hmm.symm
  clear R hW1 R1 hnews hlen cells free cells1 free1 last hi1 hmm hnc
  go_enter Try.func49, Try.ntmps49
  go_wp2_with fail
  go_region_law (refine step_append_room rfl (.tmp 22) (.tmp 25) 22 rfl 2 i0 1 Try.underlying22 hi0 hz1 g 0 i c (by simp [Act.eval, Act.put]) A mm (c - i1) news (by simp [Act.eval, Act.put]) s1.out hsrc.out s2.out (by omega) s3.out ?_; rw [← hW.out])
  go_wp2
  go_ret
  exact ⟨by rw [FL.out]; rfl, FIN.out, FK.out⟩
end Go.Proofs.Ytenoalfjobghnaa
