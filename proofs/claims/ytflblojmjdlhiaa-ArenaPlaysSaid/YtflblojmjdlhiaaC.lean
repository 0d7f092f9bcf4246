/- Alloc and Free: what they do to an arena. -/
import Derived.Test.YtflblojmjdlhiaaAq
set_option linter.unusedVariables false
set_option linter.unusedSimpArgs false
namespace Go.Proofs.Ytflblojmjdlhiaa
open Go.RowKit

def Ar.alloc (A : Ar) : Ar := match A.fr with
  | i :: r => ⟨A.cap, A.T.set i (IntKind.u64.wrap (A.T.getD i 0 + 1)), r⟩
  | [] => ⟨A.cap, A.T ++ [1], []⟩
def Ar.free (A : Ar) (i : Nat) : Ar := ⟨A.cap, A.T, i :: A.fr⟩

theorem set_at {α : Type} {l : List α} {k : Nat} {x : α} (v : α) (h : l[k]? = some x) : (l.set k v)[k]? = some v := by
  have := (List.getElem?_eq_some_iff.1 h).1
  rw [List.getElem?_set]; simp [this]
theorem set_far {α : Type} {l : List α} {k j : Nat} (v : α) (h : k ≠ j) : (l.set k v)[j]? = l[j]? := by
  rw [List.getElem?_set]; simp [h]
theorem linked_congr {U V : Nat → Int} {l : List Nat} (h : linked U l) (e : ∀ i ∈ l, V i = U i) : linked V l := by
  induction l with
  | nil => trivial
  | cons i r ih => exact ⟨by rw [e i (by simp)]; exact h.1, ih h.2 fun j hj => e j (by simp [hj])⟩
theorem u64_bounds (x : Int) : 0 ≤ IntKind.u64.wrap x ∧ IntKind.u64.wrap x < 18446744073709551616 := by rw [IntKind.wrap_u64]; omega

theorem Rep.pop {A : Ar} {nb : Nat} {xs : List Value} {len begun : Nat} {top : Int} {U : Nat → Int} (R : Rep A nb xs len begun top U) (ok : A.ok) {i : Nat} {r : List Nat} (hf : A.fr = i :: r) :
    Rep A.alloc nb ((xs.set (3 * i) (.int .i64 1)).set (3 * i + 1) (.int .u64 (IntKind.u64.wrap (A.T.getD i 0 + 1)))) (len + 1) begun (U i) U := by
  have e : A.alloc = ⟨A.cap, A.T.set i (IntKind.u64.wrap (A.T.getD i 0 + 1)), r⟩ := by unfold Ar.alloc; rw [hf]
  have nd := ok.nd
  have lk := R.lk
  have ln := R.len
  have hi := ok.lt i (by rw [hf]; simp)
  rw [hf] at nd lk ln
  rw [← R.beg] at hi
  rw [e]
  have hir : i ∉ r := (List.nodup_cons.1 nd).1
  simp only [List.length_cons] at ln
  refine ⟨by simpa using R.beg, by simp only; omega, lk.1, R.nb1, R.nb2, fun j hj => ?_, fun j hj => ?_, fun j hj => ?_, lk.2, fun j h1 h2 => ?_⟩
  · rw [set_far _ (by omega)]
    by_cases h : j = i
    · subst h
      rw [set_at _ (R.st j hj), if_neg hir]
    · rw [set_far _ (by omega), R.st j hj, hf]
      simp [h]
  · by_cases h : j = i
    · subst h
      have h5 := R.tm j hj
      rw [set_at _ ((set_far _ (by omega)).trans h5)]
      simp [List.getD, show j < A.T.length by rw [← R.beg]; exact hj]
    · rw [set_far _ (by omega), set_far _ (by omega), R.tm j hj]
      simp [List.getD, List.getElem?_set, Ne.symm h]
  · rw [set_far _ (by omega), set_far _ (by omega), R.un j hj]
  · obtain ⟨z0, z1, z2⟩ := R.zs j h1 h2
    rw [set_far _ (by omega), set_far _ (by omega), set_far _ (by omega), set_far _ (by omega), set_far _ (by omega), set_far _ (by omega)]
    exact ⟨z0, z1, z2⟩
theorem Rep.fresh {A : Ar} {nb : Nat} {xs : List Value} {len begun : Nat} {top : Int} {U : Nat → Int} (R : Rep A nb xs len begun top U) (hf : A.fr = []) (hn : begun + 1 ≤ nb * 64) :
    Rep A.alloc nb ((xs.set (3 * begun) (.int .i64 1)).set (3 * begun + 1) (.int .u64 1)) (len + 1) (begun + 1) top (fun j => if j = begun then 0 else U j) := by
  have e : A.alloc = ⟨A.cap, A.T ++ [1], []⟩ := by unfold Ar.alloc; rw [hf]
  have ln := R.len
  have tp := R.top
  have n2 := R.nb2
  rw [hf] at ln tp
  rw [e]
  simp only [List.length_nil] at ln
  have hb := R.beg
  obtain ⟨y0, y1, y2⟩ := R.zs begun (by omega) (by omega)
  refine ⟨by simp [hb], by simp only [List.length_nil]; omega, tp, hn, by omega, fun j hj => ?_, fun j hj => ?_, fun j hj => ?_, trivial, fun j h1 h2 => ?_⟩
  · rw [set_far _ (by omega)]
    by_cases h : j = begun
    · subst h
      rw [set_at _ y0]; simp
    · rw [set_far _ (by omega), R.st j (by omega), hf]
  · by_cases h : j = begun
    · subst h
      rw [set_at _ ((set_far _ (by omega)).trans y1)]
      simp [List.getD, hb]
    · rw [set_far _ (by omega), set_far _ (by omega), R.tm j (by omega)]
      simp [List.getD, List.getElem?_append_left (show j < A.T.length by omega)]
  · rw [set_far _ (by omega), set_far _ (by omega)]
    by_cases h : j = begun
    · subst h; rw [y2]; simp
    · rw [R.un j (by omega)]; simp [h]
  · obtain ⟨z0, z1, z2⟩ := R.zs j (by omega) h2
    rw [set_far _ (by omega), set_far _ (by omega), set_far _ (by omega), set_far _ (by omega), set_far _ (by omega), set_far _ (by omega)]
    exact ⟨z0, z1, z2⟩
theorem Rep.free {A : Ar} {nb : Nat} {xs : List Value} {len begun : Nat} {top : Int} {U : Nat → Int} (R : Rep A nb xs len begun top U) {i : Nat} (hi : i < begun) (hu : i ∉ A.fr) (hl : 0 < len) :
    Rep (A.free i) nb ((xs.set (3 * i) (.int .i64 2)).set (3 * i + 2) (.int .i64 top)) (len - 1) begun (i : Int) (fun j => if j = i then top else U j) := by
  have ln := R.len
  refine ⟨R.beg, by simp [Ar.free]; omega, rfl, R.nb1, R.nb2, fun j hj => ?_, fun j hj => ?_, fun j hj => ?_, ⟨by simp [R.top], ?_⟩, fun j h1 h2 => ?_⟩
  · rw [set_far _ (by omega)]
    by_cases h : j = i
    · subst h
      rw [set_at _ (R.st j hj)]; simp [Ar.free]
    · rw [set_far _ (by omega), R.st j hj]; simp [Ar.free, h]
  · rw [set_far _ (by omega), set_far _ (by omega), R.tm j hj]; rfl
  · by_cases h : j = i
    · subst h
      rw [set_at _ ((set_far _ (by omega)).trans (R.un j hj))]; simp
    · rw [set_far _ (by omega), set_far _ (by omega), R.un j hj]; simp [h]
  · exact linked_congr R.lk fun j hj => by
      have : j ≠ i := fun e => hu (e ▸ hj)
      simp [this]
  · obtain ⟨z0, z1, z2⟩ := R.zs j h1 h2
    rw [set_far _ (by omega), set_far _ (by omega), set_far _ (by omega), set_far _ (by omega), set_far _ (by omega), set_far _ (by omega)]
    exact ⟨z0, z1, z2⟩
theorem Ar.ok.pop {A : Ar} (ok : A.ok) {i : Nat} {r : List Nat} (hf : A.fr = i :: r) : A.alloc.ok := by
  have e : A.alloc = ⟨A.cap, A.T.set i (IntKind.u64.wrap (A.T.getD i 0 + 1)), r⟩ := by unfold Ar.alloc; rw [hf]
  rw [e]
  have nd := ok.nd
  rw [hf] at nd
  refine ⟨by simpa using ok.le, ok.cap, (List.nodup_cons.1 nd).2, fun j hj => by simpa using ok.lt j (by rw [hf]; simp [hj]), fun t ht => ?_⟩
  rcases List.mem_or_eq_of_mem_set ht with h | rfl
  · exact ok.u t h
  · exact u64_bounds _
theorem Ar.ok.fresh {A : Ar} (ok : A.ok) (hf : A.fr = []) (hl : A.T.length < A.cap) : A.alloc.ok := by
  have e : A.alloc = ⟨A.cap, A.T ++ [1], []⟩ := by unfold Ar.alloc; rw [hf]
  rw [e]
  refine ⟨by simp; omega, ok.cap, by simp, by simp, fun t ht => ?_⟩
  simp at ht
  rcases ht with h | rfl
  · exact ok.u t h
  · omega
theorem Ar.ok.free {A : Ar} (ok : A.ok) {i : Nat} (hi : i < A.T.length) (hu : i ∉ A.fr) : (A.free i).ok :=
  ⟨ok.le, ok.cap, List.nodup_cons.2 ⟨hu, ok.nd⟩, fun j hj => by simp [Ar.free] at hj ⊢; rcases hj with rfl | hj; exact hi; exact ok.lt j hj, ok.u⟩

theorem begin_any {B : Nat} {w : World} {b : Nat} {v : Value} {nb : Nat} {xs : List Value} {A : Ar} {len begun : Nat} {top : Int} {U : Nat → Int} (M : Mem B w b v nb xs A.cap len begun top) (R : Rep A nb xs len begun top U) (hb : begun ≤ 65536) :
    Calls Try.prog 38 #[.pointer (some ⟨b, 0, none⟩)] w fun e w' => e = .returned (.tuple #[]) ∧ ∃ v' nb' xs', Mem B w' b v' nb' xs' A.cap len (begun + 1) top ∧ Rep A nb' xs' len begun top U ∧ begun + 1 ≤ nb' * 64 ∧ (v'.ownBlock = v.ownBlock ∨ ∃ k, v'.ownBlock = some k ∧ w.heap.size ≤ k) ∧ Kp (b :: v.ownBlock.toList) w w' := by
  have n1 := R.nb1
  have n2 := R.nb2
  by_cases hr : begun < nb * 64
  · refine (begin_room M hr (by omega)).mono ?_
    rintro e w' ⟨rfl, M', k⟩
    exact ⟨rfl, v, nb, xs, M', R, by omega, .inl rfl, k.mono fun x hx _ => by simp at hx; simp [hx]⟩
  · have hB : B ≤ w.heap.size := by have := lt_of_blk M.blk; have := M.ge; omega
    refine (begin_full M (by omega) (by omega) hB).mono ?_
    rintro e w' ⟨rfl, v', M', hf, k⟩
    have hl : xs.length = nb * 192 := M.own.1
    refine ⟨rfl, v', nb + 1, xs ++ zc, M', ?_, by omega, hf, k⟩
    refine ⟨R.beg, R.len, R.top, by omega, by omega, fun j hj => ?_, fun j hj => ?_, fun j hj => ?_, R.lk, fun j h1 h2 => ?_⟩
    · rw [List.getElem?_append_left (by omega)]; exact R.st j hj
    · rw [List.getElem?_append_left (by omega)]; exact R.tm j hj
    · rw [List.getElem?_append_left (by omega)]; exact R.un j hj
    · have z := zc_at (j - begun) (by omega)
      rw [List.getElem?_append_right (by omega), List.getElem?_append_right (by omega), List.getElem?_append_right (by omega), hl]
      rw [show 3 * j - nb * 192 = 3 * (j - begun) by omega, show 3 * j + 1 - nb * 192 = 3 * (j - begun) + 1 by omega, show 3 * j + 2 - nb * 192 = 3 * (j - begun) + 2 by omega]
      exact z
end Go.Proofs.Ytflblojmjdlhiaa
