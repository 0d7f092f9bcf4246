/- Copy: another arena in the same state; two arenas beside other memory. -/
import Derived.Test.YtflblojmjdlhiaaR
import Derived.Laws.Cover3
set_option linter.unusedVariables false
set_option linter.unusedSimpArgs false
namespace Go.Proofs.Ytflblojmjdlhiaa
open Go.RowKit

theorem rep_ints {A : Ar} {nb : Nat} {xs : List Value} {len begun : Nat} {top : Int} {U : Nat → Int} (R : Rep A nb xs len begun top U) (hl : xs.length = nb * 192) : ∀ u ∈ xs, u.oneCell' = true := by
  intro u hu
  obtain ⟨j, hj, rfl⟩ := List.getElem_of_mem hu
  have n1 := R.nb1
  have key : ∀ x, xs[j]? = some x → x.oneCell' = true → xs[j].oneCell' = true := by
    intro x hx ho
    rw [List.getElem?_eq_getElem hj] at hx
    injection hx with hx
    rw [hx]; exact ho
  obtain ⟨i, r, hr, rfl⟩ : ∃ i r, r < 3 ∧ j = 3 * i + r := ⟨j / 3, j % 3, by omega, by omega⟩
  by_cases hb : i < begun
  · match r, hr with
    | 0, _ => exact key _ (R.st i hb) rfl
    | 1, _ => exact key _ (R.tm i hb) rfl
    | 2, _ => exact key _ (R.un i hb) rfl
  · obtain ⟨z0, z1, z2⟩ := R.zs i (by omega) (by omega)
    match r, hr with
    | 0, _ => exact key _ z0 rfl
    | 1, _ => exact key _ z1 rfl
    | 2, _ => exact key _ z2 rfl

theorem eql41 (a : Option Addr) (l c : Nat) (w : World) : (binOp .eql 41 (.slice a l c) (.slice none 0 0)).run Try.prog w = .ok (.bool a.isNone) w := by
  simp only [binOp]
  simp [run_equal_slice_nil w 41 75 a l c Try.underlying41]
theorem mk41z (w : World) : (Instr.buildSlice 41 0 #[]).run Try.prog w = .ok (.slice (some ⟨w.heap.size, 0, none⟩) 0 0) (w.alloc (.cells #[] 75)) := by kernel_rfl

theorem wpList_m41z {w : World} {ops : Array Oper} {rest : List Oper} {o : Oper} {a : Act} {Q : Exit → Act → World → Prop} (hgd : o.guard = none) (ho : o.op = .buildSlice 41 0 #[])
    (h : wpList Try.prog ops Q rest (a.put o.dst (.slice (some ⟨w.heap.size, 0, none⟩) 0 0)) (w.alloc (.cells #[] 75))) : wpList Try.prog ops Q (o :: rest) a w := by
  refine wpList_plain hgd fun K hK => ?_
  have hr := mk41z w
  unfold Oper.wp
  simp only [execOp, ho]
  simp [hr, Result.andThen, Sem.run_bind]
  exact hK _ _ h
set_option maxRecDepth 100000 in
set_option maxHeartbeats 2000000 in
theorem clone_t {B : Nat} {w : World} {p : Option Addr} {nb c : Nat} {xs : List Value} (h : w.ownsRow B 75 192 (.slice p nb c) nb xs) (h1 : ∀ u ∈ xs, u.oneCell' = true) (hnb : nb ≤ 2000) :
    Calls Try.prog 42 #[.slice p nb c] w fun e w' => ∃ v, e = .returned v ∧ w'.ownsRow w.heap.size 75 192 v nb xs ∧ Kp [] w w' := by
  rcases p with _ | ad
  · have hv : c = 0 ∧ nb = 0 := by
      rcases h.2 with ⟨he, h0⟩ | ⟨g, c', cur, he, _⟩
      · injection he with _ _ hc; exact ⟨hc, h0⟩
      · injection he with he _ _; cases he
    obtain ⟨rfl, rfl⟩ := hv
    have hx : xs = [] := List.eq_nil_of_length_eq_zero (by simpa using h.1)
    subst hx
    have q1 := eql41 none 0 0 w
    clear h h1
    go_enter Try.func42, Try.ntmps42
    go_wp2_with fail
    go_ret
    exact ⟨_, rfl, World.ownsRow_nil _ _ _ _, Kp.refl _ _⟩
  · have hg : ∃ g, ad = ⟨g, 0, none⟩ := by
      rcases h.2 with ⟨he, h0⟩ | ⟨g, c', cur, he, _⟩
      · injection he with he _ _; cases he
      · injection he with he _ _; injection he with he; exact ⟨g, he⟩
    obtain ⟨g, rfl⟩ := hg
    have H := hide h
    have H1 := hide h1
    have HB := hide hnb
    have q1 := eql41 (some ⟨g, 0, none⟩) nb c w
    obtain ⟨i0, hi, hz0, hz1, hz2⟩ := info_parts info75
    have HI := hide (And.intro hi (And.intro hz0 (And.intro hz1 hz2)))
    clear h h1 hnb hi hz0 hz1 hz2
    go_enter Try.func42, Try.ntmps42
    go_wp2_with (first | refine wpList_m41z rfl rfl ?_ | (at_builtin; refine wpList_append_own _ rfl _ _ 41 rfl w.heap.size 75 i0 z64 192 1536 Try.underlying41 HI.out.1 HI.out.2.1 HI.out.2.2.1 HI.out.2.2.2 (by show zc.toArray.size = 192; rw [List.size_toArray, zc_len]) (by decide) (.slice (some ⟨w.heap.size, 0, none⟩) 0 0) 0 [] rfl (World.ownsRow_made w #[] 0 (Nat.le_refl _) (Nat.zero_le _) rfl) ⟨g, 0, none⟩ nb c xs rfl H.out.1 ((H.out.alloc _).cells rfl) H1.out (by have := HB.out; unfold maxLen; omega) (by have := HB.out; omega) (by simp) ?_))
    intro v' w' ho hg _
    have HO := hide ho
    have HK : Hid (Kp [] w w') := (Kp.of_below ((Below.refl _ _).alloc (Nat.le_refl _) _) : Kp [] w _).grown hg (fun x hx => by simp [Value.ownBlock] at hx; omega)
    clear ho hg
    go_wp2_with fail
    go_ret
    exact ⟨_, rfl, HO.out, HK.out⟩

theorem copy_blk {w w2 : World} {cs : Array Value} (k : Kp [] (w.alloc (.cells cs 43)) w2) : w2.heap[w.heap.size]? = some (.cells cs 43 (0, 0)) ∧ True := by
  refine ⟨?_, trivial⟩
  rw [k.block _ (by simp) (by simp)]
  exact heap_alloc_new _ _
set_option maxRecDepth 100000 in
set_option maxHeartbeats 4000000 in
theorem copy_t {B : Nat} {w : World} {b : Nat} {own : List Nat} {A : Ar} (h : At B w b own A) :
    Calls Try.prog 20 #[.pointer (some ⟨b, 0, none⟩)] w fun e w' => ∃ d own', e = .returned (.pointer (some ⟨d, 0, none⟩)) ∧ At w.heap.size w' d own' A ∧ Kp [] w w' := by
  obtain ⟨v, nb, xs, len, begun, top, U, M, R, ok, hown⟩ := h
  obtain ⟨c0, c1, c2, c3, c4, c5⟩ := M.c
  obtain ⟨p, c, rfl⟩ := row_slice M.own
  have v0 := valid_t b w c0
  have HC := hide (clone_t (B := B) (w := w.alloc (.cells #[.bool true, .int .i64 (A.cap : Int), .int .i64 (len : Int), .int .i64 (begun : Int), .int .i64 top, .slice p nb c] 43)) (M.own.alloc _) (rep_ints R M.own.1) (by have := R.nb2; have := R.beg; have := ok.le; have := ok.cap; omega))
  have HM := hide M
  have HR := hide R
  have HO := hide ok
  have hbw := hide (lt_of_blk M.blk)
  have ca : (w.alloc (.cells #[.bool true, .int .i64 (A.cap : Int), .int .i64 (len : Int), .int .i64 (begun : Int), .int .i64 top, .slice p nb c] 43)).cell? ⟨b, 5, none⟩ = some (.slice p nb c) := by
    rw [World.cell?_of_block (w := w) (Below.heap_alloc w _ b hbw.out)]; exact c5
  clear M R ok hown
  go_enter Try.func20, Try.ntmps20
  go_wp2_with (first | (go_at_call 37; refine v0.mono ?_; rintro e w' ⟨rfl, rfl⟩) | (go_at_call 42; refine HC.out.mono ?_; rintro e w2 ⟨v2, rfl, o2, k2⟩; obtain ⟨p2, d2, rfl⟩ := row_slice o2; obtain ⟨B2, C2⟩ := copy_blk k2; have HO2 := hide o2; have HK2 := hide k2; have f5 := free_of_blk B2 5; have c5n := cell_of_blk B2 5; simp at c5n; have HB2 := hide B2; clear o2 k2 B2 C2))
  go_ret
  have M := HM.out
  have hb := hbw.out
  have n2 : (Value.slice p2 nb d2).ownBlock ≠ some w.heap.size := by
    intro e
    have h1 := (HO2.out.lt _ e).1
    rw [show ∀ o : Obj, (w.alloc o).heap.size = w.heap.size + 1 from fun o => by simp] at h1
    omega
  refine ⟨w.heap.size, _, rfl, ⟨.slice p2 nb d2, nb, xs, len, begun, top, U, ⟨?_, ?_, n2, Nat.le_refl _⟩, HR.out, HO.out, rfl⟩, ?_⟩
  · rw [heap_setCell_same _ _ _ _ _ _ HB2.out]
    simp
  · refine (Kp.set _ ⟨w.heap.size, 5, none⟩ _ (o := [w.heap.size]) (by simp)).row (row_mono HO2.out (by simp)) (fun k hk hm => ?_)
    simp at hm
    subst hm
    exact n2 hk
  · have k0 : Kp [] w w2 := (Kp.of_below ((Below.refl _ _).alloc (Nat.le_refl _) _) : Kp [] w _).trans HK2.out (by simp)
    exact k0.trans (Kp.set (o := [w.heap.size]) _ _ _ (by simp)) (by simp)

/-- two arenas beside a list and other memory -/
structure Two (w wr : World) (b : Nat) (A : Ar) (d : Nat) (C : Ar) (O : List Nat) : Prop where
  ex : ∃ own own', At w.heap.size wr b own A ∧ At w.heap.size wr d own' C ∧ Below w.heap.size w wr ∧ (∀ x ∈ own, x ∉ own') ∧ (∀ x ∈ own, x ∉ O) ∧ (∀ x ∈ own', x ∉ O)
theorem Two.symm {w wr : World} {b d : Nat} {A C : Ar} {O : List Nat} (h : Two w wr b A d C O) : Two w wr d C b A O := by
  obtain ⟨own, own', h1, h2, h3, h4, h5, h6⟩ := h.ex
  exact ⟨own', own, h2, h1, h3, fun x hx hy => h4 x hy hx, h6, h5⟩
theorem Two.below {w wr : World} {b d : Nat} {A C : Ar} {O : List Nat} (h : Two w wr b A d C O) : Below w.heap.size w wr := by
  obtain ⟨own, own', h1, h2, h3, _⟩ := h.ex
  exact h3
theorem Two.ok {w wr : World} {b d : Nat} {A C : Ar} {O : List Nat} (h : Two w wr b A d C O) : A.ok ∧ C.ok := by
  obtain ⟨own, own', h1, h2, h3, _⟩ := h.ex
  exact ⟨h1.ok, h2.ok⟩
theorem At.same {B : Nat} {w w' : World} {b : Nat} {own O : List Nat} {A : Ar} (h : At B w b own A) (s : Same O w w') (d : ∀ x ∈ own, x ∈ O) : At B w' b own A := by
  obtain ⟨v, nb, xs, len, begun, top, U, M, R, ok, rfl⟩ := h
  refine ⟨v, nb, xs, len, begun, top, U, ⟨by rw [s.eq b (d b (by simp))]; exact M.blk, s.row M.own fun x hx => d x (by simp [hx]), M.ne, M.ge⟩, R, ok, rfl⟩
/-- what is done with the first arena, seen as done beside the second one -/
theorem Two.op {w wr : World} {b d : Nat} {A C : Ar} {O : List Nat} (h : Two w wr b A d C O) (hO : ∀ x ∈ O, x < wr.heap.size) :
    ∃ O', Has w.heap.size w wr b A O' ∧ (∀ x ∈ O', x < wr.heap.size) ∧ ∀ w' A', Has w.heap.size w w' b A' O' → Same O' wr w' → Two w w' b A' d C O ∧ Same O wr w' := by
  obtain ⟨own, own', h1, h2, h3, h4, h5, h6⟩ := h.ex
  refine ⟨own' ++ O, ⟨own, h1, h3, fun x hx hy => ?_⟩, fun x hx => ?_, fun w' A' g s => ?_⟩
  · rw [List.mem_append] at hy
    rcases hy with hy | hy
    · exact h4 x hx hy
    · exact h5 x hx hy
  · rw [List.mem_append] at hx
    rcases hx with hx | hx
    · exact (h2.lt x hx).2
    · exact hO x hx
  · obtain ⟨own2, g1, g2, g3⟩ := g
    refine ⟨⟨own2, own', g1, h2.same s (fun x hx => by simp [hx]), g2, fun x hx hy => g3 x hx (by simp [hy]), fun x hx hy => g3 x hx (by simp [hy]), h6⟩, s.size, fun k hk => s.eq k (by simp [hk])⟩
section
variable {w wr : World} {b d : Nat} {A C : Ar} {O : List Nat}
theorem Two.step {w2 : World} (h : Two w wr b A d C O) (hO : ∀ x ∈ O, x < wr.heap.size) (k : Kp [] wr w2) : Two w w2 b A d C O ∧ Same O wr w2 := by
  obtain ⟨O', h1, h2, h3⟩ := h.op hO
  obtain ⟨g1, g2⟩ := h1.step h2 k
  exact h3 _ _ g1 g2
theorem t_alloc (h : Two w wr b A d C O) (hO : ∀ x ∈ O, x < wr.heap.size) (V : Value) (A' : Ar) (e1 : allocV A = V) (e2 : A.alloc' = A') :
    Calls Try.prog 16 #[.pointer (some ⟨b, 0, none⟩)] wr fun e w' => e = .returned V ∧ Two w w' b A' d C O ∧ Same O wr w' := by
  obtain ⟨O', h1, h2, h3⟩ := h.op hO
  refine (h_alloc h1 h2 V A' e1 e2).mono ?_
  rintro e w' ⟨rfl, g, s⟩
  exact ⟨rfl, h3 _ _ g s⟩
theorem t_free (h : Two w wr b A d C O) (hO : ∀ x ∈ O, x < wr.heap.size) (i : Int) (V : Int) (A' : Ar) (e1 : A.freeE i = V) (e2 : A.free' i = A') :
    Calls Try.prog 18 #[.pointer (some ⟨b, 0, none⟩), .int .i64 i] wr fun e w' => e = .returned (.int .i64 V) ∧ Two w w' b A' d C O ∧ Same O wr w' := by
  obtain ⟨O', h1, h2, h3⟩ := h.op hO
  refine (h_free h1 h2 i V A' e1 e2).mono ?_
  rintro e w' ⟨rfl, g, s⟩
  exact ⟨rfl, h3 _ _ g s⟩
theorem t_cap (h : Two w wr b A d C O) (V : Int) (e1 : (A.cap : Int) = V) :
    Calls Try.prog 26 #[.pointer (some ⟨b, 0, none⟩)] wr fun e w' => e = .returned (.int .i64 V) ∧ wr = w' := by
  obtain ⟨own, own', h1, _⟩ := h.ex
  rw [← e1]; exact cap_t h1
end
/-- other memory is named anew -/
theorem Two.names {w wr w2 : World} {b d : Nat} {A C : Ar} {O O' : List Nat} (h : Two w wr b A d C O) (k : Kp [] wr w2) (s : ∀ x ∈ O', x ∈ O ∨ wr.heap.size ≤ x) : Two w w2 b A d C O' := by
  obtain ⟨own, own', h1, h2, h3, h4, h5, h6⟩ := h.ex
  refine ⟨own, own', h1.keep k (by simp), h2.keep k (by simp), h3.trans (k.below (by simp) h3.size), h4, fun x hx hx' => ?_, fun x hx hx' => ?_⟩
  · rcases s x hx' with h7 | h7
    · exact h5 x hx h7
    · have := h1.lt x hx; omega
  · rcases s x hx' with h7 | h7
    · exact h6 x hx h7
    · have := h2.lt x hx; omega
theorem Two.grow {w wr w2 : World} {b d : Nat} {A C : Ar} {v v' : Value} {O : List Nat} (h : Two w wr b A d C (v.ownBlock.toList ++ O)) (g : wr.grownBy w2 v.ownBlock) (f : v'.ownBlock = v.ownBlock ∨ ∃ k, v'.ownBlock = some k ∧ wr.heap.size ≤ k) (hb : ∀ k, v.ownBlock = some k → w.heap.size ≤ k) : Two w w2 b A d C (v'.ownBlock.toList ++ O) := by
  obtain ⟨own, own', h1, h2, h3, h4, h5, h6⟩ := h.ex
  have k : Kp v.ownBlock.toList wr w2 := ⟨g.os, g.tape, g.output, g.size, fun k hk hn => g.block k hk (fun e => hn (by rw [← e]; simp))⟩
  have key : ∀ (o : List Nat) (X : Ar) (e : Nat), At w.heap.size wr e o X → (∀ x ∈ o, x ∉ v.ownBlock.toList ++ O) → ∀ x ∈ o, x ∉ v'.ownBlock.toList ++ O := by
    intro o X e ha hd x hx hx2
    rw [List.mem_append] at hx2
    rcases hx2 with h7 | h7
    · rcases f with e | ⟨k, e, hk⟩
      · rw [e] at h7
        exact hd x hx (by rw [List.mem_append]; exact .inl h7)
      · rw [e] at h7
        simp at h7
        have := (ha.lt x hx).2
        omega
    · exact hd x hx (by simp [h7])
  exact ⟨own, own', h1.keep k (fun x hx hv => h5 x hx (by simp [hv])), h2.keep k (fun x hx hv => h6 x hx (by simp [hv])), h3.trans (k.below (fun x hx => hb x (by simpa using hx)) h3.size), h4, key own A b h1 h5, key own' C d h2 h6⟩
theorem Two.sub {w wr : World} {b d : Nat} {A C : Ar} {O O' : List Nat} (h : Two w wr b A d C O) (s : ∀ x ∈ O', x ∈ O) : Two w wr b A d C O' :=
  h.names (Kp.refl [] wr) (fun x hx => .inl (s x hx))
theorem t_list {w wr : World} {b d : Nat} {A C : Ar} {O : List Nat} (h : Two w wr b A d C O) :
    Calls Try.prog 27 #[.pointer (some ⟨b, 0, none⟩)] wr fun e w' => ∃ p c, e = .returned (.slice p A.list.length c) ∧ w'.ownsRow wr.heap.size 3 1 (.slice p A.list.length c) A.list.length (ints A.list) ∧ Kp [] wr w' ∧ Two w w' b A d C ((Value.slice p A.list.length c).ownBlock.toList ++ O) := by
  obtain ⟨own, own', h1, _⟩ := h.ex
  refine (list_t h1).mono ?_
  rintro e w' ⟨v, rfl, ho, k⟩
  obtain ⟨p, c, rfl⟩ := row_slice ho
  refine ⟨p, c, rfl, ho, k, h.names k (fun x hx => ?_)⟩
  rw [List.mem_append] at hx
  rcases hx with hx | hx
  · simp at hx
    exact .inr (ho.lt x hx).1
  · exact .inl hx
/-- an arena is copied -/
theorem Two.copied {w wr w2 : World} {b d : Nat} {A C : Ar} {own' : List Nat} (h : Has w.heap.size w wr b A []) (k : Kp [] wr w2) (h2 : At wr.heap.size w2 d own' C) : Two w w2 b A d C [] := by
  obtain ⟨own, h1, bl, _⟩ := h
  refine ⟨own, own', h1.keep k (by simp), ?_, bl.trans (k.below (by simp) bl.size), fun x hx hy => ?_, by simp, by simp⟩
  · obtain ⟨v, nb, xs, len, begun, top, U, M, R, ok, rfl⟩ := h2
    exact ⟨v, nb, xs, len, begun, top, U, ⟨M.blk, row_mono M.own bl.size, M.ne, by have := M.ge; have := bl.size; omega⟩, R, ok, rfl⟩
  · have := h1.lt x hx
    have := h2.lt x hy
    omega
/-- A becomes C by allocations that give these slots -/
def runs (A : Ar) : List Nat → Ar → Prop
  | [], C => C = A
  | i :: G, C => A.next = some i ∧ runs A.alloc G C
theorem runs_snoc : ∀ (G : List Nat) (A C : Ar) (i : Nat), runs A G C → C.next = some i → runs A (G ++ [i]) C.alloc := by
  intro G
  induction G with
  | nil => intro A C i h hn; cases h; exact ⟨hn, rfl⟩
  | cons j G ih => intro A C i h hn; exact ⟨h.1, ih _ _ _ h.2 hn⟩
theorem next_none {A : Ar} (ok : A.ok) (h : A.next = none) : A.fr = [] ∧ A.T.length = A.cap := by
  unfold Ar.next at h
  rcases hf : A.fr with _ | ⟨i, r⟩
  · rw [hf] at h
    simp at h
    exact ⟨rfl, by have := ok.le; omega⟩
  · rw [hf] at h; cases h

/-- two arenas beside the list l and what was got, G -/
structure CpI (w wr : World) (b : Nat) (A : Ar) (d : Nat) (C : Ar) (l : List Nat) (vl : Value) (G : List Nat) (vg : Value) : Prop where
  two : Two w wr b A d C (vg.ownBlock.toList ++ vl.ownBlock.toList)
  rl : wr.ownsRow w.heap.size 3 1 vl l.length (ints l)
  rg : wr.ownsRow w.heap.size 3 1 vg G.length (ints G)
  ne : ∀ k, vl.ownBlock = some k → vg.ownBlock ≠ some k
section
variable {w wr : World} {b d : Nat} {A C : Ar} {l G : List Nat} {vl vg : Value}
theorem CpI.o (h : CpI w wr b A d C l vl G vg) : ∀ x ∈ vg.ownBlock.toList ++ vl.ownBlock.toList, x < wr.heap.size := by
  intro x hx
  rw [List.mem_append] at hx
  rcases hx with hx | hx
  · exact row_own h.rg x hx
  · exact row_own h.rl x hx
theorem CpI.step {w2 : World} {A' C' : Ar} (h : CpI w wr b A d C l vl G vg) (t : Two w w2 b A' d C' (vg.ownBlock.toList ++ vl.ownBlock.toList)) (s : Same (vg.ownBlock.toList ++ vl.ownBlock.toList) wr w2) : CpI w w2 b A' d C' l vl G vg :=
  ⟨t, s.row h.rl (fun k hk => by simp [hk]), s.row h.rg (fun k hk => by simp [hk]), h.ne⟩
theorem CpI.keep {w2 : World} (h : CpI w wr b A d C l vl G vg) (k : Kp [] wr w2) : CpI w w2 b A d C l vl G vg := by
  obtain ⟨t, s⟩ := h.two.step h.o k
  exact h.step t s
theorem cp_alloc (h : CpI w wr b A d C l vl G vg) (V : Value) (A' : Ar) (e1 : allocV A = V) (e2 : A.alloc' = A') :
    Calls Try.prog 16 #[.pointer (some ⟨b, 0, none⟩)] wr fun e w' => e = .returned V ∧ CpI w w' b A' d C l vl G vg := by
  refine (t_alloc h.two h.o V A' e1 e2).mono ?_
  rintro e w' ⟨rfl, t, s⟩
  exact ⟨rfl, h.step t s⟩
theorem cp_alloc2 (h : CpI w wr b A d C l vl G vg) (V : Value) (C' : Ar) (e1 : allocV C = V) (e2 : C.alloc' = C') :
    Calls Try.prog 16 #[.pointer (some ⟨d, 0, none⟩)] wr fun e w' => e = .returned V ∧ CpI w w' b A d C' l vl G vg := by
  refine (t_alloc h.two.symm h.o V C' e1 e2).mono ?_
  rintro e w' ⟨rfl, t, s⟩
  exact ⟨rfl, h.step t.symm s⟩
theorem cp_free2 (h : CpI w wr b A d C l vl G vg) (i : Int) (V : Int) (C' : Ar) (e1 : C.freeE i = V) (e2 : C.free' i = C') :
    Calls Try.prog 18 #[.pointer (some ⟨d, 0, none⟩), .int .i64 i] wr fun e w' => e = .returned (.int .i64 V) ∧ CpI w w' b A d C' l vl G vg := by
  refine (t_free h.two.symm h.o i V C' e1 e2).mono ?_
  rintro e w' ⟨rfl, t, s⟩
  exact ⟨rfl, h.step t.symm s⟩
theorem cp_list (h : CpI w wr b A d C l vl G vg) :
    Calls Try.prog 27 #[.pointer (some ⟨b, 0, none⟩)] wr fun e w' => ∃ p c, e = .returned (.slice p A.list.length c) ∧ w'.ownsRow wr.heap.size 3 1 (.slice p A.list.length c) A.list.length (ints A.list) ∧ CpI w w' b A d C l vl G vg := by
  refine (t_list h.two).mono ?_
  rintro e w' ⟨p, c, rfl, o, k, _⟩
  exact ⟨p, c, rfl, o, h.keep k⟩
theorem cp_list2 (h : CpI w wr b A d C l vl G vg) :
    Calls Try.prog 27 #[.pointer (some ⟨d, 0, none⟩)] wr fun e w' => ∃ p c, e = .returned (.slice p C.list.length c) ∧ CpI w w' b A d C l vl G vg := by
  refine (t_list h.two.symm).mono ?_
  rintro e w' ⟨p, c, rfl, o, k, _⟩
  exact ⟨p, c, rfl, h.keep k⟩
theorem CpI.more {w2 : World} {i : Nat} {v' : Value} (h : CpI w wr b A d C l vl G vg) (ho : w2.ownsRow w.heap.size 3 1 v' (G.length + 1) (ints G ++ [.int .i64 (i : Int)])) (hg : wr.grownBy w2 vg.ownBlock) (hf : v'.ownBlock = vg.ownBlock ∨ ∃ k, v'.ownBlock = some k ∧ wr.heap.size ≤ k) : CpI w w2 b A d C l vl (G ++ [i]) v' := by
  refine ⟨h.two.grow hg hf (fun k hk => (h.rg.lt k hk).1), fresh_row h.rl hg (fun k hk => h.ne k hk), ?_, fun k hk => ?_⟩
  · rw [List.length_append]
    unfold ints
    rw [List.map_append]
    exact ho
  · rcases hf with e | ⟨j, e, hj⟩
    · rw [e]; exact h.ne k hk
    · rw [e]
      intro e2
      injection e2 with e2
      have := (h.rl.lt k hk).2
      omega
end
theorem full_used {C : Ar} (h : C.fr = []) (j : Nat) (hj : j < C.T.length) : C.used j = true := (used_iff C j).2 ⟨hj, by rw [h]; simp⟩
theorem list_mem {A : Ar} (ok : A.ok) {k : Nat} (hk : k < A.list.length) : A.list.getD k 0 < A.cap ∧ A.list.getD k 0 ∉ A.list.take k := by
  have h1 := (used_iff A _).1 (list_used hk)
  refine ⟨by have := ok.le; omega, fun hm => ?_⟩
  have hp : A.list.Pairwise (· < ·) := by
    unfold Ar.list Ar.upto
    exact List.Pairwise.filter _ List.pairwise_lt_range
  obtain ⟨j, hj, e⟩ := List.getElem_of_mem hm
  have hj2 : j < k := by simp at hj; omega
  have hlt := List.pairwise_iff_getElem.1 hp j k (by omega) hk hj2
  rw [List.getElem_take] at e
  have : A.list.getD k 0 = A.list[k] := by simp [List.getD, hk]
  rw [this] at e
  omega
end Go.Proofs.Ytflblojmjdlhiaa
