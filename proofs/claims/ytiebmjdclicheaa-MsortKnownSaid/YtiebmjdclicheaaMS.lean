/- A list in order that keeps equal elements in their order: there is one; inversions. -/
import Derived.Test.YtiebmjdclicheaaMB
set_option linter.unusedVariables false
set_option linter.unusedSimpArgs false
namespace Go.Proofs.Ytiebmjdclicheaa
open Go.RowKit

section
variable {α : Type}
/-- a strict weak order -/
structure Weak (bf : α → α → Bool) : Prop where
  asym : ∀ a b, bf a b = true → bf b a = false
  nt : ∀ a b c, bf a b = false → bf b c = false → bf a c = false
variable {bf : α → α → Bool}
theorem Weak.irr (h : Weak bf) (a : α) : bf a a = false := by
  cases e : bf a a with
  | false => rfl
  | true => have := h.asym a a e; rw [e] at this; exact this
variable (bf) in
def eqv (x y : α) : Bool := !bf x y && !bf y x
theorem eqv_self (h : Weak bf) (a : α) : eqv bf a a = true := by simp [eqv, h.irr]
theorem eqv_iff {x y : α} : eqv bf x y = true ↔ bf x y = false ∧ bf y x = false := by simp [eqv]
theorem eqv_trans (h : Weak bf) {x y z : α} (a : eqv bf x y = true) (b : eqv bf x z = true) : eqv bf y z = true := by
  rw [eqv_iff] at *
  exact ⟨h.nt _ _ _ a.2 b.1, h.nt _ _ _ b.2 a.1⟩
variable (bf) in
def Orr (l : List α) : Prop := l.Pairwise fun a b => bf b a = false
variable (bf) in
/-- s is l in order, with equal elements in their order -/
def St (s l : List α) : Prop := Orr bf s ∧ ∀ x, s.filter (eqv bf x) = l.filter (eqv bf x)
theorem ord_uniq (h : Weak bf) : ∀ (s t : List α), Orr bf s → Orr bf t → (∀ x, s.filter (eqv bf x) = t.filter (eqv bf x)) → s = t
  | [], [], _, _, _ => rfl
  | [], b :: t, _, _, e => by have := e b; simp [eqv_self h] at this
  | a :: s, [], _, _, e => by have := e a; simp [eqv_self h] at this
  | a :: s, b :: t, hs, ht, e => by
    have hs' := hs
    have ht' := ht
    unfold Orr at hs' ht'
    rw [List.pairwise_cons] at hs' ht'
    have m1 : a ∈ (b :: t).filter (eqv bf a) := by rw [← e a]; simp [eqv_self h]
    have m2 : b ∈ (a :: s).filter (eqv bf b) := by rw [e b]; simp [eqv_self h]
    have m1 := (List.mem_filter.1 m1).1
    have m2 := (List.mem_filter.1 m2).1
    have q1 : bf a b = false := by
      rcases List.mem_cons.1 m1 with rfl | m
      · exact h.irr _
      · exact ht'.1 _ m
    have q2 : bf b a = false := by
      rcases List.mem_cons.1 m2 with rfl | m
      · exact h.irr _
      · exact hs'.1 _ m
    have ea := e a
    rw [List.filter_cons_of_pos (eqv_self h a), List.filter_cons_of_pos (eqv_iff.2 ⟨q1, q2⟩)] at ea
    injection ea with e1 e2
    subst e1
    congr 1
    refine ord_uniq h s t hs'.2 ht'.2 fun x => ?_
    have ex := e x
    rw [List.filter_cons, List.filter_cons] at ex
    split at ex
    · injection ex
    · exact ex
theorem St.uniq (h : Weak bf) {s t l : List α} (a : St bf s l) (b : St bf t l) : s = t := ord_uniq h s t a.1 b.1 fun x => (a.2 x).trans (b.2 x).symm
theorem Orr.part {a b : List α} (h : Orr bf (a ++ b)) : Orr bf a ∧ Orr bf b ∧ ∀ x ∈ a, ∀ y ∈ b, bf y x = false := List.pairwise_append.1 h
theorem Orr.join {a b : List α} (h1 : Orr bf a) (h2 : Orr bf b) (h3 : ∀ x ∈ a, ∀ y ∈ b, bf y x = false) : Orr bf (a ++ b) := List.pairwise_append.2 ⟨h1, h2, h3⟩
theorem Orr.cons {a : α} {b : List α} (h1 : ∀ y ∈ b, bf y a = false) (h2 : Orr bf b) : Orr bf (a :: b) := List.pairwise_cons.2 ⟨h1, h2⟩
theorem mrgT_split (y : α) : ∀ a : List α, (mrgT bf y a).1 ++ (mrgT bf y a).2 = a
  | [] => rfl
  | x :: r => by
    unfold mrgT
    split
    · rfl
    · simp [mrgT_split y r]
theorem mrgT_lo (y : α) : ∀ a : List α, ∀ x ∈ (mrgT bf y a).1, bf y x = false
  | [] => by simp [mrgT]
  | x :: r => by
    unfold mrgT
    split
    · simp
    · next h =>
      intro z hz
      simp at hz
      rcases hz with rfl | hz
      · simpa using h
      · exact mrgT_lo y r z hz
theorem mrgT_hi (h : Weak bf) (y : α) : ∀ a : List α, Orr bf a → ∀ x ∈ (mrgT bf y a).2, bf y x = true
  | [], _ => by simp [mrgT]
  | x :: r, ho => by
    unfold mrgT
    split
    · next hb =>
      intro z hz
      simp at hz
      rcases hz with rfl | hz
      · exact hb
      · have q := (List.pairwise_cons.1 ho).1 z hz
        cases e : bf y z with
        | true => rfl
        | false => have := h.nt _ _ _ e q; rw [hb] at this; cases this
    · exact mrgT_hi h y r (List.pairwise_cons.1 ho).2
theorem mrg_mem' (x : α) : ∀ (b a : List α), x ∈ (mrg bf a b).1 ↔ x ∈ a ∨ x ∈ b
  | [], a => by simp [mrg]
  | y :: b, a => by
    have s : x ∈ a ↔ x ∈ (mrgT bf y a).1 ∨ x ∈ (mrgT bf y a).2 := by rw [← List.mem_append, mrgT_split]
    simp only [mrg, List.mem_append, List.mem_cons, mrg_mem' x b, s]
    constructor
    · rintro (h | h | h | h) <;> simp [h]
    · rintro ((h | h) | h | h) <;> simp [h]
theorem mrg_st (h : Weak bf) : ∀ (b a : List α), Orr bf a → Orr bf b → St bf (mrg bf a b).1 (a ++ b)
  | [], a, ha, _ => by simp [mrg]; exact ⟨ha, fun _ => rfl⟩
  | y :: b, a, ha, hb => by
    have lo := mrgT_lo (bf := bf) y a
    have hi := mrgT_hi h y a ha
    have sp := mrgT_split (bf := bf) y a
    obtain ⟨A, hA⟩ : ∃ A, A = (mrgT bf y a).1 := ⟨_, rfl⟩
    obtain ⟨B, hB⟩ : ∃ B, B = (mrgT bf y a).2 := ⟨_, rfl⟩
    have hm : (mrg bf a (y :: b)).1 = A ++ y :: (mrg bf B b).1 := by rw [hA, hB]; rfl
    rw [← hA] at lo sp
    rw [← hB] at hi sp
    rw [hm, ← sp]
    rw [← sp] at ha
    obtain ⟨oA, oB, oAB⟩ := ha.part
    have hb' := List.pairwise_cons.1 hb
    obtain ⟨o1, o2⟩ := mrg_st h b B oB hb'.2
    refine ⟨?_, fun x => ?_⟩
    · refine Orr.join oA (Orr.cons (fun z hz => ?_) o1) fun x hx z hz => ?_
      · rcases (mrg_mem' z b B).1 hz with hz | hz
        · exact h.asym _ _ (hi z hz)
        · exact hb'.1 z hz
      · rcases List.mem_cons.1 hz with rfl | hz
        · exact lo x hx
        · rcases (mrg_mem' z b B).1 hz with hz | hz
          · exact oAB x hx z hz
          · exact h.nt _ _ _ (hb'.1 z hz) (lo x hx)
    · rw [List.filter_append, List.filter_append, List.filter_append, List.filter_cons, o2 x, List.filter_append, List.filter_cons]
      split
      · next e =>
        have : B.filter (eqv bf x) = [] := by
          rw [List.filter_eq_nil_iff]
          intro z hz e2
          have := eqv_iff.1 (eqv_trans h e e2)
          rw [hi z hz] at this
          exact absurd this.1 (by decide)
        simp [this]
      · simp
theorem take_drop_len {l : List α} {f : Nat} (h : l.length ≤ f + 1) (h2 : ¬ l.length < 2) : (l.take (l.length / 2)).length ≤ f ∧ (l.drop (l.length / 2)).length ≤ f := by simp; omega
theorem srt_st (h : Weak bf) : ∀ (f : Nat) (l : List α), l.length ≤ f → St bf (srt bf f l).1 l
  | 0, l, hl => by
    have : l = [] := List.eq_nil_of_length_eq_zero (by omega)
    subst this
    exact ⟨List.Pairwise.nil, fun _ => rfl⟩
  | f + 1, l, hl => by
    unfold srt
    split
    · next h2 =>
      refine ⟨?_, fun _ => rfl⟩
      match l, h2 with
      | [], _ => exact List.Pairwise.nil
      | [a], _ => exact List.pairwise_singleton _ _
    · next h2 =>
      obtain ⟨l1, l2⟩ := take_drop_len hl h2
      have s1 := srt_st h f _ l1
      have s2 := srt_st h f _ l2
      have m := mrg_st h _ _ s1.1 s2.1
      refine ⟨m.1, fun x => ?_⟩
      rw [m.2 x, List.filter_append, s1.2, s2.2, ← List.filter_append, List.take_append_drop]
theorem srt_big (h : Weak bf) {f g : Nat} {l : List α} (h1 : l.length ≤ f) (h2 : l.length ≤ g) : (srt bf f l).1 = (srt bf g l).1 := (srt_st h f l h1).uniq h (srt_st h g l h2)
/-- two parts in order, merged, are the whole in order -/
theorem mrg_srt (h : Weak bf) (a b : List α) : (mrg bf (srt bf a.length a).1 (srt bf b.length b).1).1 = (srt bf (a ++ b).length (a ++ b)).1 := by
  have s1 := srt_st h _ _ (Nat.le_refl a.length)
  have s2 := srt_st h _ _ (Nat.le_refl b.length)
  have m := mrg_st h _ _ s1.1 s2.1
  refine St.uniq h (l := a ++ b) ⟨m.1, fun x => ?_⟩ (srt_st h _ _ (Nat.le_refl _))
  rw [m.2 x, List.filter_append, s1.2, s2.2, ← List.filter_append]
theorem mrg_ord (h : Weak bf) {a b : List α} (ha : Orr bf a) (hb : Orr bf b) : (mrg bf a b).1 = (srt bf (a ++ b).length (a ++ b)).1 :=
  St.uniq h (mrg_st h _ _ ha hb) (srt_st h _ _ (Nat.le_refl _))
/-- an element put behind those that are not after it -/
theorem St.ins (h : Weak bf) {A B l : List α} {y : α} (s : St bf (A ++ B) l) (hB : ∀ z ∈ B, bf y z = true) (hA : A = [] ∨ ∃ C a, A = C ++ [a] ∧ bf y a = false) : St bf (A ++ y :: B) (l ++ [y]) := by
  obtain ⟨oA, oB, oAB⟩ := s.1.part
  have lo : ∀ x ∈ A, bf y x = false := by
    rcases hA with rfl | ⟨C, a, rfl, ha⟩
    · simp
    · intro x hx
      rcases List.mem_append.1 hx with hx | hx
      · exact h.nt _ _ _ ha ((oA.part).2.2 x hx a (by simp))
      · simp at hx; subst hx; exact ha
  refine ⟨Orr.join oA (Orr.cons (fun z hz => h.asym _ _ (hB z hz)) oB) fun x hx z hz => ?_, fun x => ?_⟩
  · rcases List.mem_cons.1 hz with rfl | hz
    · exact lo x hx
    · exact oAB x hx z hz
  · have q := s.2 x
    rw [List.filter_append] at q
    rw [List.filter_append, List.filter_append, ← q, List.filter_cons, List.filter_cons]
    split
    · next e =>
      have : B.filter (eqv bf x) = [] := by
        rw [List.filter_eq_nil_iff]
        intro z hz e2
        have := eqv_iff.1 (eqv_trans h e e2)
        rw [hB z hz] at this
        exact absurd this.1 (by decide)
      simp [this]
    · simp
theorem mrg_perm : ∀ (b a : List α), (mrg bf a b).1.Perm (a ++ b)
  | [], a => by simp [mrg]
  | y :: b, a => by
    have sp := mrgT_split (bf := bf) y a
    have ih := mrg_perm b (mrgT bf y a).2
    have hm : (mrg bf a (y :: b)).1 = (mrgT bf y a).1 ++ y :: (mrg bf (mrgT bf y a).2 b).1 := rfl
    rw [hm]
    conv => rhs; rw [← sp]
    rw [List.append_assoc]
    refine List.Perm.append_left _ ?_
    refine (List.Perm.cons y ih).trans ?_
    exact List.perm_middle.symm
theorem srt_perm : ∀ (f : Nat) (l : List α), (srt bf f l).1.Perm l
  | 0, _ => List.Perm.refl _
  | f + 1, l => by
    unfold srt
    split
    · exact List.Perm.refl _
    · refine (mrg_perm _ _).trans ?_
      have := (srt_perm f (l.take (l.length / 2))).append (srt_perm f (l.drop (l.length / 2)))
      rwa [List.take_append_drop] at this
/-- a list that is a list's image -/
theorem mrgT_map {β : Type} (g : β → α) (y : β) : ∀ a : List β, mrgT bf (g y) (a.map g) = ((mrgT (fun i j => bf (g i) (g j)) y a).1.map g, (mrgT (fun i j => bf (g i) (g j)) y a).2.map g)
  | [] => rfl
  | x :: r => by
    simp only [List.map_cons, mrgT]
    split
    · rfl
    · rw [mrgT_map g y r]; rfl
theorem mrg_map {β : Type} (g : β → α) : ∀ (b a : List β), mrg bf (a.map g) (b.map g) = ((mrg (fun i j => bf (g i) (g j)) a b).1.map g, (mrg (fun i j => bf (g i) (g j)) a b).2)
  | [], a => rfl
  | y :: b, a => by
    simp only [List.map_cons, mrg]
    rw [mrgT_map]
    simp only [mrg_map g b, List.map_append, List.map_cons, List.length_map]
theorem srt_map {β : Type} (g : β → α) : ∀ (f : Nat) (l : List β), srt bf f (l.map g) = ((srt (fun i j => bf (g i) (g j)) f l).1.map g, (srt (fun i j => bf (g i) (g j)) f l).2)
  | 0, _ => rfl
  | f + 1, l => by
    unfold srt
    rw [List.length_map]
    split
    · rfl
    · rw [← List.map_take, ← List.map_drop, srt_map g f, srt_map g f, mrg_map]
/-- the pairs of an element of a and one of b that is before it -/
def cross (bf : α → α → Bool) (a : List α) : List α → Nat
  | [] => 0
  | y :: b => a.countP (bf y) + cross bf a b
/-- inversions -/
def inv (bf : α → α → Bool) : List α → Nat
  | [] => 0
  | x :: r => r.countP (fun y => bf y x) + inv bf r
theorem cross_nil : ∀ b : List α, cross bf [] b = 0
  | [] => rfl
  | y :: b => by simp [cross, cross_nil b]
theorem cross_app (a c : List α) : ∀ b : List α, cross bf (a ++ c) b = cross bf a b + cross bf c b
  | [] => rfl
  | y :: b => by simp [cross, cross_app a c b]; omega
theorem cross_one (x : α) : ∀ b : List α, cross bf [x] b = b.countP (fun y => bf y x)
  | [] => rfl
  | y :: b => by simp only [cross, cross_one x b, List.countP_cons, List.countP_nil]; omega
theorem cross_zero : ∀ (b a : List α), (∀ x ∈ a, ∀ y ∈ b, bf y x = false) → cross bf a b = 0
  | [], _, _ => rfl
  | y :: b, a, h => by
    have h1 : a.countP (bf y) = 0 := by rw [List.countP_eq_zero]; intro x hx e; rw [h x hx y (by simp)] at e; cases e
    simp [cross, h1, cross_zero b a (fun x hx z hz => h x hx z (by simp [hz]))]
theorem cross_perm1 {a a' : List α} (h : a.Perm a') : ∀ b : List α, cross bf a b = cross bf a' b
  | [] => rfl
  | y :: b => by simp [cross, cross_perm1 h b, h.countP_eq]
theorem cross_perm2 (a : List α) {b b' : List α} (h : b.Perm b') : cross bf a b = cross bf a b' := by
  induction h with
  | nil => rfl
  | cons x _ ih => simp [cross, ih]
  | swap x y l => simp [cross]; omega
  | trans _ _ h1 h2 => exact h1.trans h2
theorem inv_app : ∀ (a b : List α), inv bf (a ++ b) = inv bf a + inv bf b + cross bf a b
  | [], b => by simp [inv, cross_nil]
  | x :: a, b => by
    have := cross_app (bf := bf) [x] a b
    rw [cross_one] at this
    simp only [List.singleton_append] at this
    simp only [List.cons_append, inv, inv_app a b, List.countP_append, this]
    omega
theorem inv_snoc (a : List α) (y : α) : inv bf (a ++ [y]) = inv bf a + a.countP (bf y) := by simp [inv_app, inv, cross]
theorem inv_ord : ∀ (l : List α), inv bf l = 0 ↔ Orr bf l
  | [] => by simp [inv, Orr]
  | x :: r => by
    have := inv_ord r
    unfold Orr at this ⊢
    rw [List.pairwise_cons, ← this]
    simp only [inv, Nat.add_eq_zero_iff, List.countP_eq_zero]
    simp
theorem mrg_cross (h : Weak bf) : ∀ (b a : List α), Orr bf a → Orr bf b → (mrg bf a b).2 = cross bf a b
  | [], a, _, _ => rfl
  | y :: b, a, ha, hb => by
    have lo := mrgT_lo (bf := bf) y a
    have hi := mrgT_hi h y a ha
    have sp := mrgT_split (bf := bf) y a
    obtain ⟨A, hA⟩ : ∃ A, A = (mrgT bf y a).1 := ⟨_, rfl⟩
    obtain ⟨B, hB⟩ : ∃ B, B = (mrgT bf y a).2 := ⟨_, rfl⟩
    have hm : (mrg bf a (y :: b)).2 = B.length + (mrg bf B b).2 := by rw [hB]; rfl
    rw [← hA] at lo sp
    rw [← hB] at hi sp
    rw [← sp] at ha
    have hb' := List.pairwise_cons.1 hb
    obtain ⟨oA, oB, oAB⟩ := ha.part
    rw [hm, mrg_cross h b B oB hb'.2]
    conv => rhs; rw [← sp]
    rw [cross_app]
    have z : cross bf A b = 0 := cross_zero _ _ fun x hx m hm => h.nt _ _ _ (hb'.1 m hm) (lo x hx)
    have z1 : A.countP (bf y) = 0 := by rw [List.countP_eq_zero]; intro x hx e; rw [lo x hx] at e; cases e
    have z2 : B.countP (bf y) = B.length := by rw [List.countP_eq_length]; exact hi
    simp only [cross, z, z1, z2]
    omega
theorem srt_inv2 (h : Weak bf) : ∀ (f : Nat) (l : List α), l.length ≤ f → (srt bf f l).2 = inv bf l
  | 0, l, hl => by
    have : l = [] := List.eq_nil_of_length_eq_zero (by omega)
    subst this; rfl
  | f + 1, l, hl => by
    unfold srt
    split
    · next h2 =>
      match l, h2 with
      | [], _ => rfl
      | [a], _ => rfl
    · next h2 =>
      obtain ⟨l1, l2⟩ := take_drop_len hl h2
      have s1 := srt_st h f _ l1
      have s2 := srt_st h f _ l2
      rw [srt_inv2 h f _ l1, srt_inv2 h f _ l2, mrg_cross h _ _ s1.1 s2.1, cross_perm1 (srt_perm f _), cross_perm2 _ (srt_perm f _), ← inv_app, List.take_append_drop]
/-- no element is before the one in front of it -/
theorem ord_next (h : Weak bf) : ∀ (l : List α), (∀ i a b, l[i]? = some a → l[i + 1]? = some b → bf b a = false) → Orr bf l
  | [], _ => List.Pairwise.nil
  | [a], _ => List.pairwise_singleton _ _
  | a :: b :: r, hn => by
    have ih := ord_next h (b :: r) fun i x y hx hy => hn (i + 1) x y hx hy
    have h0 := hn 0 a b rfl rfl
    refine Orr.cons (fun z hz => ?_) ih
    rcases List.mem_cons.1 hz with rfl | hz
    · exact h0
    · exact h.nt _ _ _ ((List.pairwise_cons.1 ih).1 z hz) h0
theorem ord_at {l : List α} (h : Orr bf l) {i j : Nat} {a b : α} (hij : i < j) (ha : l[i]? = some a) (hb : l[j]? = some b) : bf b a = false := by
  obtain ⟨hi, rfl⟩ := List.getElem?_eq_some_iff.1 ha
  obtain ⟨hj, rfl⟩ := List.getElem?_eq_some_iff.1 hb
  exact List.pairwise_iff_getElem.1 h i j hi hj hij
end
end Go.Proofs.Ytiebmjdclicheaa
