/- What has been seen, spreading from one element. -/
import Derived.Test.YtpidkfkjfcjniaaG
set_option linter.unusedVariables false
set_option linter.unusedSimpArgs false
namespace Go.Proofs.Ytpidkfkjfcjniaa
open Go.RowKit

def sb (S : Nat → Bool) (a : Nat) : Nat → Bool := fun i => if i = a then true else S i
def cb (S : Nat → Bool) : Nat → Nat
  | 0 => 0
  | m + 1 => cb S m + if S m = true then 1 else 0
theorem cb_le (S : Nat → Bool) : ∀ m, cb S m ≤ m := by
  intro m
  induction m with
  | zero => simp [cb]
  | succ m ih => simp only [cb]; split <;> omega
theorem cb_sb {S : Nat → Bool} {a : Nat} (h : S a = false) : ∀ m, cb (sb S a) m = cb S m + if a < m then 1 else 0 := by
  intro m
  induction m with
  | zero => simp [cb]
  | succ m ih =>
    simp only [cb, ih]
    by_cases e : m = a
    · subst e
      simp [sb, h]
    · have : a < m ↔ a < m + 1 := by omega
      simp [sb, e, this]
      split <;> split <;> omega
theorem cb_cnt {S : Nat → Bool} {L : Nat → Nat} {x n : Nat} (h : ∀ i, i < n → (S i = true ↔ L i = x)) : ∀ m, m ≤ n → cb S m = cnt L x m := by
  intro m hm
  induction m with
  | zero => rfl
  | succ m ih =>
    simp only [cb, cnt, ih (by omega)]
    have := h m (by omega)
    by_cases e : L m = x <;> simp [e, this]
theorem sb_same {S : Nat → Bool} {a : Nat} (h : S a = true) : sb S a = S := by
  funext i
  unfold sb
  split
  · subst_vars; exact h.symm
  · rfl
theorem sb_at (S : Nat → Bool) (a : Nat) : sb S a a = true := by simp [sb]
theorem sb_of {S : Nat → Bool} {a i : Nat} (h : sb S a i = true) : i = a ∨ S i = true := by
  unfold sb at h
  split at h
  · exact .inl ‹_›
  · exact .inr h
def pok (n : Nat) (V : Nat → Nat → Int) (S : Nat → Bool) (q : Nat) : Prop := inr n (V q 0) → inr n (V q 1) → S (V q 0).toNat = S (V q 1).toNat
def closed (n : Nat) (V : Nat → Nat → Int) (len : Nat) (S : Nat → Bool) : Prop := ∀ q, q < len → pok n V S q
/-- within a round that began with S0, before pair k -/
def Mid (n : Nat) (V : Nat → Nat → Int) (len : Nat) (S0 S : Nat → Bool) (k : Nat) : Prop :=
  (S = S0 ∧ ∀ q, q < k → pok n V S q) ∨ (cb S0 n < cb S n ∧ ¬ closed n V len S0)
theorem Mid.start (n : Nat) (V : Nat → Nat → Int) (len : Nat) (S : Nat → Bool) : Mid n V len S S 0 := .inl ⟨rfl, fun q h => by omega⟩
theorem Mid.skip {n : Nat} {V : Nat → Nat → Int} {len : Nat} {S0 S : Nat → Bool} {k : Nat} (h : Mid n V len S0 S k) (e : pok n V S k) : Mid n V len S0 S (k + 1) := by
  rcases h with ⟨h1, h2⟩ | h
  · refine .inl ⟨h1, fun q hq => ?_⟩
    by_cases he : q = k
    · subst he; exact e
    · exact h2 q (by omega)
  · exact .inr h
theorem Mid.mark {n : Nat} {V : Nat → Nat → Int} {len : Nat} {S0 S : Nat → Bool} {k : Nat} (h : Mid n V len S0 S k) (hk : k < len) (r0 : inr n (V k 0)) (r1 : inr n (V k 1)) (hs : S (V k 0).toNat = true ∨ S (V k 1).toNat = true) :
    Mid n V len S0 (sb (sb S (V k 0).toNat) (V k 1).toNat) (k + 1) := by
  have l0 : (V k 0).toNat < n := by unfold inr at r0; omega
  have l1 : (V k 1).toNat < n := by unfold inr at r1; omega
  by_cases he : S (V k 0).toNat = S (V k 1).toNat
  · have h0 : S (V k 0).toNat = true := by rcases hs with h | h; exact h; rw [he]; exact h
    have h1 : S (V k 1).toNat = true := by rw [← he]; exact h0
    rw [sb_same h0, sb_same h1]
    exact h.skip (fun _ _ => he)
  · have hc : cb S n < cb (sb (sb S (V k 0).toNat) (V k 1).toNat) n := by
      rcases hs with h | h
      · rw [sb_same h, cb_sb (by cases h2 : S (V k 1).toNat; rfl; exact absurd (h.trans h2.symm) he), if_pos l1]; omega
      · have h0 : S (V k 0).toNat = false := by cases h2 : S (V k 0).toNat; rfl; exact absurd (h2.trans h.symm) he
        rw [sb_same (a := (V k 1).toNat) (by unfold sb; split; rfl; exact h), cb_sb h0, if_pos l0]; omega
    rcases h with ⟨h1, h2⟩ | ⟨h1, h2⟩
    · subst h1
      exact .inr ⟨hc, fun hcl => he (hcl k hk r0 r1)⟩
    · exact .inr ⟨by omega, h2⟩
/-- after r rounds -/
def Prog (n : Nat) (V : Nat → Nat → Int) (len : Nat) (S : Nat → Bool) (r : Nat) : Prop := closed n V len S ∨ r < cb S n
theorem Prog.next {n : Nat} {V : Nat → Nat → Int} {len : Nat} {S0 S : Nat → Bool} {r : Nat} (h : Prog n V len S0 r) (m : Mid n V len S0 S len) : Prog n V len S (r + 1) := by
  rcases m with ⟨rfl, h2⟩ | ⟨h1, h2⟩
  · exact .inl h2
  · rcases h with h | h
    · exact absurd h h2
    · exact .inr (by omega)
theorem Prog.done {n : Nat} {V : Nat → Nat → Int} {len : Nat} {S : Nat → Bool} (h : Prog n V len S n) : closed n V len S := by
  rcases h with h | h
  · exact h
  · have := cb_le S n; omega
theorem seen_all {n : Nat} {V : Nat → Nat → Int} {len : Nat} {S : Nat → Bool} {L : Nat → Nat} {from' : Nat} (u : Uni n V len L) (c : closed n V len S) (hf : from' < n) (h0 : S from' = true) (hs : ∀ i, i < n → S i = true → L i = L from') : ∀ i, i < n → (S i = true ↔ L i = L from') := by
  intro i hi
  refine ⟨hs i hi, fun e => ?_⟩
  have := u.un (fun i => if S i = true then 1 else 0) (fun q hq r0 r1 => by rw [c q hq r0 r1]) i from' hi hf e
  simp [h0] at this
  exact this
def boolsF (n : Nat) (S : Nat → Bool) : List Value := (List.range n).map fun i : Nat => Value.bool (S i)
theorem boolsF_get {n : Nat} (S : Nat → Bool) {i : Nat} (hi : i < n) : (boolsF n S)[i]? = some (.bool (S i)) := by simp [boolsF, hi]
theorem boolsF_set {n : Nat} (S : Nat → Bool) (a : Nat) : (boolsF n S).set a (.bool true) = boolsF n (sb S a) := by
  apply List.ext_getElem
  · simp [boolsF]
  · intro j h1 h2
    rw [List.getElem_set]
    simp [boolsF, sb]
    by_cases e : a = j
    · subst e; simp
    · have e2 : ¬ j = a := Ne.symm e
      simp [e, e2]
theorem made_bools (w : World) {B : Nat} (hB : B ≤ w.heap.size) (n : Nat) (h1 : n ≤ 65536) : (w.alloc (.cells (madeCells #[.bool false] n) 4)).ownsRow B 4 1 (.slice (some ⟨w.heap.size, 0, none⟩) n n) n (boolsF n (fun _ => false)) := by
  refine ⟨by simp [boolsF], .inr ⟨w.heap.size, n, madeCells #[.bool false] n, rfl, hB, heap_alloc_new _ _, Nat.le_refl _, by unfold maxLen; omega, by simp [size_madeCells], ?_⟩⟩
  apply List.ext_getElem?
  intro i
  by_cases hi : i < n
  · rw [boolsF_get _ hi]
    simp [madeCells, hi, Nat.mod_one]
  · rw [List.getElem?_eq_none (by simp; omega), List.getElem?_eq_none (by simp [boolsF]; omega)]
theorem info4 : (Try.prog.info? 4).map (fun i => (i.zero, i.size, i.bytes)) = some (some (.bool false), 1, 1) := by kernel_rfl
end Go.Proofs.Ytpidkfkjfcjniaa
