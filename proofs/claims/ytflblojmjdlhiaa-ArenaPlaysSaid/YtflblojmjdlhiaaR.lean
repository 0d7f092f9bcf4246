/- Lists of slots: how long they are, that they increase, and when two are equal. -/
import Derived.Test.YtflblojmjdlhiaaQ
set_option linter.unusedVariables false
set_option linter.unusedSimpArgs false
namespace Go.Proofs.Ytflblojmjdlhiaa
open Go.RowKit

theorem cnt_filter : ∀ (n : Nat) (fr : List Nat), fr.Nodup → (∀ x ∈ fr, x < n) → ((List.range n).filter (fun i => decide (i ∉ fr))).length + fr.length = n := by
  intro n
  induction n with
  | zero =>
    intro fr _ h
    rcases fr with _ | ⟨x, r⟩
    · simp
    · have := h x (by simp); omega
  | succ n ih =>
    intro fr nd h
    rw [List.range_succ, List.filter_append, List.length_append]
    by_cases hm : n ∈ fr
    · have h1 := ih (fr.erase n) (nd.erase n) fun x hx => by
        have := h x (List.mem_of_mem_erase hx)
        have : x ≠ n := fun e => by subst e; exact nd.not_mem_erase hx
        omega
      have e : (List.range n).filter (fun i => decide (i ∉ fr)) = (List.range n).filter (fun i => decide (i ∉ fr.erase n)) := by
        apply List.filter_congr
        intro i hi
        simp at hi
        have hne : i ≠ n := by omega
        simp [List.mem_erase_of_ne hne]
      rw [e]
      have hp : 0 < fr.length := List.length_pos_of_mem hm
      rw [List.length_erase_of_mem hm] at h1
      have : ([n].filter fun i => decide (i ∉ fr)).length = 0 := by simp [hm]
      omega
    · have h1 := ih fr nd fun x hx => by
        have := h x hx
        have : x ≠ n := fun e => hm (e ▸ hx)
        omega
      have : ([n].filter fun i => decide (i ∉ fr)).length = 1 := by simp [hm]
      omega
theorem list_len {A : Ar} (ok : A.ok) : A.list.length = A.len := by
  have h := cnt_filter A.T.length A.fr ok.nd ok.lt
  have e : A.list = (List.range A.T.length).filter (fun i => decide (i ∉ A.fr)) := by
    unfold Ar.list Ar.upto
    apply List.filter_congr
    intro i hi
    simp at hi
    rw [Bool.eq_iff_iff, used_iff]
    simp [hi]
  rw [e]
  unfold Ar.len
  omega
theorem list_used {A : Ar} {k : Nat} (hk : k < A.list.length) : A.used (A.list.getD k 0 : Nat) = true := by
  have hm : A.list[k] ∈ A.list := List.getElem_mem hk
  have e : A.list.getD k 0 = A.list[k] := by simp [List.getD, hk]
  rw [e]
  unfold Ar.list Ar.upto at hm ⊢
  exact (List.mem_filter.1 hm).2
theorem list_up {A : Ar} {k : Nat} (hk : k + 1 < A.list.length) : A.list.getD k 0 < A.list.getD (k + 1) 0 := by
  have hp : A.list.Pairwise (· < ·) := by
    unfold Ar.list Ar.upto
    exact List.Pairwise.filter _ List.pairwise_lt_range
  have := List.pairwise_iff_getElem.1 hp k (k + 1) (by omega) hk (by omega)
  simpa [List.getD, hk, show k < A.list.length by omega] using this
theorem list_lt {A : Ar} (ok : A.ok) : A.list.length ≤ 65536 := by
  rw [list_len ok]
  have := ok.le
  have := ok.cap
  unfold Ar.len
  omega
theorem list_congr {A A' : Ar} (h : A'.T.length = A.T.length) (u : ∀ j : Nat, A'.used j = A.used j) : A'.list = A.list := by
  unfold Ar.list Ar.upto
  rw [h]
  apply List.filter_congr
  intro i _
  exact u i

set_option maxRecDepth 100000 in
set_option maxHeartbeats 4000000 in
/-- two slices that hold the same numbers -/
theorem same_t (w : World) (l : List Nat) (B B' : Nat) (p q : Option Addr) (c d : Nat) (h1 : w.ownsRow B 3 1 (.slice p l.length c) l.length (ints l)) (h2 : w.ownsRow B' 3 1 (.slice q l.length d) l.length (ints l)) (hl : l.length ≤ 65536) :
    Calls Try.prog 30 #[.slice p l.length c, .slice q l.length d] w fun e w' => e = .returned (.bool true) ∧ Kp [] w w' := by
  have HI : Hid (∀ k, k < l.length → (ints l)[k]? = some (.int .i64 ((l.getD k 0 : Nat) : Int))) := by
    intro k hk
    simp [ints, List.getD, hk]
  generalize hn : l.length = n at h1 h2 hl HI ⊢
  have H1 := hide h1
  have H2 := hide h2
  have HL := hide hl
  clear h1 h2 hl hn
  go_enter Try.func30, Try.ntmps30
  go_wp2_with fail
  go_loopw [5] (fun i wr => ∃ k : Nat, i = .int .i64 (k : Int) ∧ Hid (k ≤ n) ∧ Hid (∃ q, wr = w.drewN q)) (fun i _ => n - (intOf i).toNat)
  case atStart => exact ⟨0, rfl, Nat.zero_le _, 0, rfl⟩
  case round =>
    obtain ⟨k, rfl, hk, hq⟩ := hrel
    obtain ⟨qq, rfl⟩ := hq.out
    by_cases hlt : k < n
    · have dk : decide (k < n) = true := by simpa using hlt
      have ww : IntKind.i64.wrap ((k : Int) + 1) = (k : Int) + 1 := by have := HL.out; rw [IntKind.wrap_i64]; omega
      obtain ⟨g1, rfl, e1, _, _⟩ := row_cell H1.out hlt
      obtain ⟨g2, rfl, e2, _, _⟩ := row_cell H2.out hlt
      rw [HI.out k hlt] at e1 e2
      generalize l.getD k 0 = x at *
      have HK := hide hlt
      generalize hwr : w.drewN qq = wr
      have e1' : wr.cell? ⟨g1, k, none⟩ = some (.int .i64 (x : Int)) := by rw [← hwr]; exact e1
      have e2' : wr.cell? ⟨g2, k, none⟩ = some (.int .i64 (x : Int)) := by rw [← hwr]; exact e2
      have HW := hide hwr
      clear e1 e2 hwr
      go_wp2_with fail
      go_quiet (fail)
      go_wp2_with fail
      go_roundw
      case rel => exact ⟨k + 1, by go_num, by have := HK.out; show k + 1 ≤ n; omega, qq + nq, by rw [← HW.out, World.drewN_drewN]⟩
      case measure => have := HK.out; simp [intOf]; omega
    · have dk : decide (k < n) = false := by simp; omega
      clear hlt
      go_wp2_with fail
      go_ret
      exact ⟨rfl, Kp.drewN _ _ _⟩

/-- an arena beside a list of the law's own -/
structure HL (w wr : World) (b : Nat) (A : Ar) (l : List Nat) (v : Value) : Prop where
  has : Has w.heap.size w wr b A (v.ownBlock.toList ++ [])
  row : wr.ownsRow w.heap.size 3 1 v l.length (ints l)
theorem HL.o {w wr : World} {b : Nat} {A : Ar} {l : List Nat} {v : Value} (h : HL w wr b A l v) : ∀ x ∈ v.ownBlock.toList ++ [], x < wr.heap.size := fun x hx => row_own h.row x (by simpa using hx)
theorem HL.step {w wr w2 : World} {b : Nat} {A A' : Ar} {l : List Nat} {v : Value} (h : HL w wr b A l v) (h2 : Has w.heap.size w w2 b A' (v.ownBlock.toList ++ [])) (s : Same (v.ownBlock.toList ++ []) wr w2) : HL w w2 b A' l v :=
  ⟨h2, s.row h.row (fun k hk => by simp [hk])⟩
theorem hl_list1 {w wr : World} {b : Nat} {A : Ar} (h : Has w.heap.size w wr b A []) :
    Calls Try.prog 27 #[.pointer (some ⟨b, 0, none⟩)] wr fun e w' => ∃ p c, e = .returned (.slice p A.list.length c) ∧ HL w w' b A A.list (.slice p A.list.length c) := by
  refine (h_list h (by simp) _ rfl).mono ?_
  rintro e w' ⟨p, c, rfl, o, h2, s⟩
  exact ⟨p, c, rfl, h2, row_mono o h.below.size⟩
section
variable {w wr : World} {b : Nat} {A : Ar} {l : List Nat} {v : Value}
theorem hl_list (h : HL w wr b A l v) :
    Calls Try.prog 27 #[.pointer (some ⟨b, 0, none⟩)] wr fun e w' => ∃ p c, e = .returned (.slice p A.list.length c) ∧ w'.ownsRow wr.heap.size 3 1 (.slice p A.list.length c) A.list.length (ints A.list) ∧ HL w w' b A l v := by
  refine (h_list h.has h.o _ rfl).mono ?_
  rintro e w' ⟨p, c, rfl, o, h2, s⟩
  exact ⟨p, c, rfl, o, h.step (h2.sub (fun x hx => by rw [List.mem_append]; exact .inr hx)) s⟩
theorem hl_next (h : HL w wr b A l v) (V : Value) (e1 : nextV A = V) :
    Calls Try.prog 22 #[.pointer (some ⟨b, 0, none⟩)] wr fun e w' => e = .returned V ∧ HL w w' b A l v := by
  refine (h_next h.has h.o V e1).mono ?_
  rintro e w' ⟨rfl, h2, s⟩
  exact ⟨rfl, h.step h2 s⟩
theorem hl_alloc (h : HL w wr b A l v) (V : Value) (A' : Ar) (e1 : allocV A = V) (e2 : A.alloc' = A') :
    Calls Try.prog 16 #[.pointer (some ⟨b, 0, none⟩)] wr fun e w' => e = .returned V ∧ HL w w' b A' l v := by
  refine (h_alloc h.has h.o V A' e1 e2).mono ?_
  rintro e w' ⟨rfl, h2, s⟩
  exact ⟨rfl, h.step h2 s⟩
theorem hl_free (h : HL w wr b A l v) (i : Int) (V : Int) (A' : Ar) (e1 : A.freeE i = V) (e2 : A.free' i = A') :
    Calls Try.prog 18 #[.pointer (some ⟨b, 0, none⟩), .int .i64 i] wr fun e w' => e = .returned (.int .i64 V) ∧ HL w w' b A' l v := by
  refine (h_free h.has h.o i V A' e1 e2).mono ?_
  rintro e w' ⟨rfl, h2, s⟩
  exact ⟨rfl, h.step h2 s⟩
end
theorem nextV_pair (A : Ar) : ∃ (x : Int) (t : Bool), nextV A = .tuple #[.int .i64 x, .bool t] := by
  unfold nextV
  cases A.next with
  | none => exact ⟨_, _, rfl⟩
  | some i => exact ⟨_, _, rfl⟩
theorem nextV_congr {A A' : Ar} (h1 : A'.cap = A.cap) (h2 : A'.fr = A.fr) (h3 : A'.T.length = A.T.length) : nextV A' = nextV A := by
  unfold nextV Ar.next
  rw [h1, h2, h3]
end Go.Proofs.Ytflblojmjdlhiaa
