/- Slices of numbers of the law's own, beside an arena; what is freed and allocated again. -/
import Derived.Test.YtflblojmjdlhiaaM
import Derived.Test.YtflblojmjdlhiaaOp
set_option linter.unusedVariables false
set_option linter.unusedSimpArgs false
namespace Go.Proofs.Ytflblojmjdlhiaa
open Go.RowKit

theorem row_slice {w : World} {B e size n : Nat} {v : Value} {xs : List Value} (h : w.ownsRow B e size v n xs) : ∃ p c, v = .slice p n c := by
  rcases h.2 with ⟨rfl, rfl⟩ | ⟨g, c, cur, rfl, _⟩
  · exact ⟨_, _, rfl⟩
  · exact ⟨_, _, rfl⟩
theorem row_cell {w : World} {B e n c : Nat} {p : Option Addr} {xs : List Value} (h : w.ownsRow B e 1 (.slice p n c) n xs) {k : Nat} (hk : k < n) :
    ∃ g, p = some ⟨g, 0, none⟩ ∧ w.cell? ⟨g, k, none⟩ = xs[k]? ∧ w.frozen? ⟨g, k, none⟩ = false ∧ B ≤ g := by
  obtain ⟨hl, h1 | ⟨g, cap, cur, hv, hg, hh, hn, hm, hs, ht⟩⟩ := id h
  · obtain ⟨_, rfl⟩ := h1; omega
  · injection hv with h1 h2 h3
    subst h1; subst h3
    exact ⟨g, rfl, h.cellAt k (by omega), h.frozenAt k, hg⟩
theorem Same.row {w w' : World} {B e size n : Nat} {v : Value} {xs : List Value} {O : List Nat} (s : Same O w w') (h : w.ownsRow B e size v n xs) (ho : ∀ k, v.ownBlock = some k → k ∈ O) : w'.ownsRow B e size v n xs := by
  refine ⟨h.1, ?_⟩
  rcases h.2 with h1 | ⟨g, cap, cur, rfl, hb, hgg, rest⟩
  · exact .inl h1
  · exact .inr ⟨g, cap, cur, rfl, hb, by rw [s.eq g (ho g rfl)]; exact hgg, rest⟩
theorem row_own {w : World} {B e size n : Nat} {v : Value} {xs : List Value} (h : w.ownsRow B e size v n xs) : ∀ x ∈ v.ownBlock.toList, x < w.heap.size := by
  intro x hx
  simp at hx
  exact (h.lt x hx).2
/-- what is appended to has grown -/
theorem Has.grow {B : Nat} {w0 w w' : World} {b : Nat} {A : Ar} {v v' : Value} {O : List Nat} (h : Has B w0 w b A (v.ownBlock.toList ++ O)) (g : w.grownBy w' v.ownBlock) (f : v'.ownBlock = v.ownBlock ∨ ∃ k, v'.ownBlock = some k ∧ w.heap.size ≤ k) (hb : ∀ k, v.ownBlock = some k → B ≤ k) : Has B w0 w' b A (v'.ownBlock.toList ++ O) := by
  obtain ⟨own, h, bl, d⟩ := h
  have k : Kp v.ownBlock.toList w w' := ⟨g.os, g.tape, g.output, g.size, fun k hk hn => g.block k hk (fun e => hn (by rw [← e]; simp))⟩
  refine ⟨own, h.keep k (fun x hx hv => d x hx (by simp [hv])), bl.trans (k.below (fun x hx => hb x (by simpa using hx)) (by have := h.lt b h.mem; omega)), fun x hx hx2 => ?_⟩
  rw [List.mem_append] at hx2
  rcases hx2 with h1 | h1
  · rcases f with e | ⟨k, e, hk⟩
    · rw [e] at h1
      exact d x hx (by rw [List.mem_append]; exact .inl h1)
    · rw [e] at h1
      simp at h1
      have := (h.lt x hx).2
      omega
  · exact d x hx (by simp [h1])
theorem rowsI_one {w : World} {s : Option Addr} {k : IntKind} {n : Nat} {V : Nat → Nat → Int} (h : RowsI w s [k] n V) {i : Nat} (hi : i < n) :
    ∃ b off, s = some ⟨b, off, none⟩ ∧ b < w.heap.size ∧ w.cell? ⟨b, off + i, none⟩ = some (.int k (V i 0)) ∧ (Lit.int k (V i 0)).wf = true := by
  rcases h with h | ⟨b, off, rfl, hb, hc⟩
  · omega
  · have := hc i hi 0 k rfl
    simp at this
    exact ⟨b, off, rfl, hb, this⟩

def T2 (m : Nat) (D : List Nat) : List Int := (List.range m).map fun j => if j ∈ D then (2 : Int) else 1
theorem T2_len (m : Nat) (D : List Nat) : (T2 m D).length = m := by simp [T2]
theorem T2_nil (m : Nat) : T2 m [] = List.replicate m 1 := by
  apply List.ext_getElem
  · simp [T2]
  · intro i h1 h2
    simp [T2]
theorem T2_get (m : Nat) (D : List Nat) {x : Nat} (hx : x < m) : (T2 m D).getD x 0 = if x ∈ D then 2 else 1 := by
  simp [T2, List.getD, hx]
theorem T2_step (m : Nat) (D : List Nat) {x : Nat} (hx : x < m) (hn : x ∉ D) : (T2 m D).set x (IntKind.u64.wrap ((T2 m D).getD x 0 + 1)) = T2 m (x :: D) := by
  rw [T2_get m D hx, if_neg hn, show IntKind.u64.wrap (1 + 1) = 2 by rw [IntKind.wrap_u64]; rfl]
  apply List.ext_getElem
  · simp [T2]
  · intro i h1 h2
    simp [T2] at h2
    rw [List.getElem_set]
    by_cases h : x = i
    · subst h; simp [T2]
    · rw [if_neg h]
      simp [T2, Ne.symm h]
/-- the last one that was freed is the next one -/
theorem back_alloc (n m : Nat) (F : List Nat) (k : Nat) (hk : k < F.length) (nd : F.Nodup) (lt : ∀ x ∈ F, x < m) :
    nextV ⟨n, T2 m (F.drop (k + 1)), (F.take (k + 1)).reverse⟩ = .tuple #[.int .i64 ((F.getD k 0 : Nat) : Int), .bool true] ∧
    allocV ⟨n, T2 m (F.drop (k + 1)), (F.take (k + 1)).reverse⟩ = .tuple #[.int .i64 ((F.getD k 0 : Nat) : Int), .int .i64 0] ∧
    (Ar.mk n (T2 m (F.drop (k + 1))) (F.take (k + 1)).reverse).alloc' = ⟨n, T2 m (F.drop k), (F.take k).reverse⟩ ∧
    (Ar.mk n (T2 m (F.drop k)) (F.take k).reverse).times ((F.getD k 0 : Nat) : Int) = 2 := by
  have hg : F.getD k 0 = F[k] := by simp [List.getD, hk]
  have hm : F[k] < m := lt _ (List.getElem_mem hk)
  have e1 : (F.take (k + 1)).reverse = F[k] :: (F.take k).reverse := by
    rw [List.take_succ_eq_append_getElem hk, List.reverse_append]; rfl
  have e2 : F.drop k = F[k] :: F.drop (k + 1) := by rw [List.drop_eq_getElem_cons hk]
  have nn : F[k] ∉ F.drop (k + 1) := by
    have : (F.drop k).Nodup := nd.sublist (List.drop_sublist k F)
    rw [e2] at this
    exact (List.nodup_cons.1 this).1
  rw [hg, e1]
  have en : (Ar.mk n (T2 m (F.drop (k + 1))) (F[k] :: (F.take k).reverse)).next = some F[k] := rfl
  refine ⟨?_, ?_, ?_, ?_⟩
  · unfold nextV; rw [en]
  · unfold allocV; rw [en]
  · unfold Ar.alloc'
    rw [en]
    show Ar.mk n ((T2 m (F.drop (k + 1))).set F[k] _) _ = _
    rw [T2_step m _ hm nn, ← e2]
  · unfold Ar.times
    rw [if_pos (by simp [T2_len]; omega)]
    show (T2 m (F.drop k)).getD _ 0 = 2
    rw [Int.toNat_natCast, T2_get m _ hm, if_pos (by rw [e2]; exact List.mem_cons_self)]
theorem fresh_alloc (n : Nat) (T : List Int) (h : T.length < n) :
    allocV ⟨n, T, []⟩ = .tuple #[.int .i64 (T.length : Int), .int .i64 0] ∧ (Ar.mk n T []).alloc' = ⟨n, T ++ [1], []⟩ ∧ (Ar.mk n (T ++ [1]) []).times (T.length : Int) = 1 := by
  have e : (Ar.mk n T []).next = some T.length := by unfold Ar.next; simp [h]
  refine ⟨?_, ?_, ?_⟩
  · unfold allocV; rw [e]
  · unfold Ar.alloc'; rw [e]; rfl
  · unfold Ar.times
    rw [if_pos (by simp; omega)]
    simp [List.getD]
theorem back_free (n m : Nat) (F : List Nat) (x : Nat) (hx : x < m) (hm : m ≤ n) :
    (Ar.mk n (List.replicate m 1) F.reverse).used (x : Int) = decide (x ∉ F) ∧ (Ar.mk n (List.replicate m 1) F.reverse).freeE (x : Int) = (if x ∈ F then 5 else 0) ∧
    (Ar.mk n (List.replicate m 1) F.reverse).free' (x : Int) = ⟨n, List.replicate m 1, (if x ∈ F then F else F ++ [x]).reverse⟩ := by
  have hu : (Ar.mk n (List.replicate m 1) F.reverse).used (x : Int) = decide (x ∉ F) := by
    rw [Bool.eq_iff_iff, used_iff]
    simp [hx]
  refine ⟨hu, ?_, ?_⟩
  · unfold Ar.freeE
    rw [hu, if_neg (by simp; omega)]
    by_cases h : x ∈ F <;> simp [h]
  · unfold Ar.free'
    rw [hu]
    by_cases h : x ∈ F <;> simp [h, Ar.free]
structure BackI (w wr : World) (b n m : Nat) (F : List Nat) (l : Value) : Prop where
  has : Has w.heap.size w wr b ⟨n, List.replicate m 1, F.reverse⟩ (l.ownBlock.toList ++ [])
  row : wr.ownsRow w.heap.size 3 1 l F.length (ints F)
  nd : F.Nodup
  lt : ∀ x ∈ F, x < m
end Go.Proofs.Ytflblojmjdlhiaa
