/- The specification's Alloc with a fresh slot, and Free. -/
import Derived.Test.YtflblojmjdlhiaaRP
set_option linter.unusedVariables false
set_option linter.unusedSimpArgs false
namespace Go.Proofs.Ytflblojmjdlhiaa
open Go.RowKit

structure Apart (r : Nat) (a b c : Option Nat) : Prop where
  ra : ∀ k, a = some k → k ≠ r
  rb : ∀ k, b = some k → k ≠ r
  rc : ∀ k, c = some k → k ≠ r
  ab : ∀ k, a = some k → b ≠ some k
  ac : ∀ k, a = some k → c ≠ some k
  bc : ∀ k, b = some k → c ≠ some k
theorem nd_parts {r : Nat} {a b c : Option Nat} : (r :: (a.toList ++ (b.toList ++ c.toList))).Nodup ↔ Apart r a b c := by
  constructor
  · intro h
    cases a <;> cases b <;> cases c <;> simp at h <;> refine ⟨?_, ?_, ?_, ?_, ?_, ?_⟩ <;> intro k hk <;> simp at hk ⊢ <;> omega
  · intro h
    obtain ⟨h1, h2, h3, h4, h5, h6⟩ := h
    cases a <;> cases b <;> cases c <;> (try simp at h1 h2 h3 h4 h5 h6 ⊢) <;> (try omega)
theorem row_len {w : World} {B e size n c : Nat} {p : Option Addr} {xs : List Value} (h : w.ownsRow B e size (.slice p n c) n xs) : True := trivial

set_option maxRecDepth 100000 in
set_option maxHeartbeats 4000000 in
theorem ralloc_fresh {B : Nat} {w : World} {r : Nat} {own : List Nat} {A : Ar} (h : RAt B w r own A) (ok : A.ok) (ps : A.pos) (hf : A.fr = []) (hc : A.T.length < A.cap) :
    Calls Try.prog 17 #[.pointer (some ⟨r, 0, none⟩)] w fun e w' => e = .returned (.tuple #[.int .i64 (A.T.length : Int), .int .i64 0]) ∧ RGoes B w r own A.alloc w' := by
  have hnx : A.next = some A.T.length := by unfold Ar.next; rw [hf]; simp [hc]
  have nx := rnext_t h ok ps
  have hn : nextV A = .tuple #[.int .i64 (A.T.length : Int), .bool true] := by unfold nextV; rw [hnx]
  rw [hn] at nx
  have H := hide h
  have v0 : Calls Try.prog 40 #[.pointer (some ⟨r, 0, none⟩)] w fun e w' => e = .returned (.bool true) ∧ w = w' := by
    obtain ⟨vI, vC, vR, M, _⟩ := h
    exact rvalid_t r w M.c.1
  obtain ⟨f0, f1, f2, f3, f4, f5, f6⟩ := alloc_facts ok hnx
  have OA := hide (outs_alloc ok hnx)
  have CA := hide (cnts_alloc ok hnx)
  have CP := hide f5
  have HF := hide hf
  have AL := hide (show A.alloc.fr = [] by unfold Ar.alloc; rw [hf])
  obtain ⟨i, hi'⟩ : ∃ i, i = A.T.length := ⟨_, rfl⟩
  rw [← hi'] at hn nx OA CA f2 ⊢
  have hi := f2
  have NX := hide nx
  have hl : A.fr.length = 0 := by rw [hf]; rfl
  clear f0 f1 f2 f3 f4 f5 f6 hnx hn nx ok ps h hf hc hi'
  go_enter Try.func17, Try.ntmps17
  go_wp2_with (first | (go_at_call 40; refine v0.mono ?_; rintro e w' ⟨rfl, rfl⟩))
  refine NX.out.mono ?_
  rintro e w1 ⟨rfl, k1⟩
  have K1 := hide k1
  obtain ⟨vI, vC, vR, M, hown⟩ := H.out.keep k1 (by simp)
  obtain ⟨c0, c1, c2, c3, c4⟩ := M.c
  obtain ⟨pI, cI, rfl⟩ := row_slice M.I
  obtain ⟨pC, cC, rfl⟩ := row_slice M.C
  obtain ⟨pR, cR, rfl⟩ := row_slice M.R
  obtain ⟨gI, rfl, hcI, hfI, _⟩ := row_cell M.I hi
  obtain ⟨gC, rfl, hcC, hfC, _⟩ := row_cell M.C hi
  rw [outs_get A hi] at hcI
  rw [cnts_get A hi] at hcC
  rw [hl] at c4
  have MM := hide M
  have HO := hide hown
  have nd := nd_parts.1 M.nd
  have n1 : gI ≠ r := nd.ra gI rfl
  have n2 : gC ≠ r := nd.rb gC rfl
  have n4 : gI ≠ gC := fun e => nd.ab gI rfl (by rw [e]; rfl)
  have n1' := Ne.symm n1
  have n2' := Ne.symm n2
  have n4' := Ne.symm n4
  have ND := hide nd
  have HL := hide hl
  clear M hown k1 v0 nd hl
  generalize A.times (i : Int) = t at *
  go_wp2_with fail
  go_ret2
  have M := MM.out
  have b2 := blk_off M.blk n1 i (.bool true)
  have b3 := blk_off b2 n2 i (.int .u64 (IntKind.u64.wrap (t + 1)))
  have fI := row_side (row_put M.I i (.bool true)) (b := gC) (fun k hk => by simp [Value.ownBlock] at hk; subst hk; exact n4) i (.int .u64 (IntKind.u64.wrap (t + 1)))
  have fC := row_put (row_side M.C (b := gI) (fun k hk => by simp [Value.ownBlock] at hk; subst hk; exact n4') i (.bool true)) i (.int .u64 (IntKind.u64.wrap (t + 1)))
  have fR := row_side (row_side M.R (b := gI) (fun k hk e => ND.out.ac gI rfl (by rw [hk, e])) i (.bool true)) (b := gC) (fun k hk e => ND.out.bc gC rfl (by rw [hk, e])) i (.int .u64 (IntKind.u64.wrap (t + 1)))
  rw [OA.out, CP.out] at fI
  rw [CA.out, CP.out] at fC
  have ho := HO.out
  refine ⟨rfl, own, ⟨.slice (some ⟨gI, 0, none⟩) A.cap cI, .slice (some ⟨gC, 0, none⟩) A.cap cC, _, ⟨?_, by rw [CP.out]; exact fI, by rw [CP.out]; exact fC, ?_, M.ge, M.nd⟩, ho⟩, fun k hk => .inl hk, ?_⟩
  · rw [b3, CP.out]
  · rw [AL.out, ← HF.out]
    exact fR
  · have mr : r ∈ own := by rw [ho]; simp
    have mI : gI ∈ own := by rw [ho]; simp [Value.ownBlock]
    have mC : gC ∈ own := by rw [ho]; simp [Value.ownBlock]
    exact (((K1.out.mono (by simp) : Kp own w w1).trans (Kp.set (o := own) _ _ _ mI) (fun x hx => .inl hx)).trans (Kp.set (o := own) _ _ _ mC) (fun x hx => .inl hx))
set_option maxHeartbeats 1000000 in
theorem ralloc_none {B : Nat} {w : World} {r : Nat} {own : List Nat} {A : Ar} (h : RAt B w r own A) (ok : A.ok) (ps : A.pos) (hnx : A.next = none) :
    Calls Try.prog 17 #[.pointer (some ⟨r, 0, none⟩)] w fun e w' => e = .returned (.tuple #[.int .i64 0, .int .i64 4]) ∧ Kp [] w w' := by
  have nx := rnext_t h ok ps
  have hn : nextV A = .tuple #[.int .i64 0, .bool false] := by unfold nextV; rw [hnx]
  rw [hn] at nx
  have NX := hide nx
  have v0 : Calls Try.prog 40 #[.pointer (some ⟨r, 0, none⟩)] w fun e w' => e = .returned (.bool true) ∧ w = w' := by
    obtain ⟨vI, vC, vR, M, _⟩ := h
    exact rvalid_t r w M.c.1
  clear h ok ps hnx hn nx
  go_enter Try.func17, Try.ntmps17
  go_wp2_with (first | (go_at_call 40; refine v0.mono ?_; rintro e w' ⟨rfl, rfl⟩))
  refine NX.out.mono ?_
  rintro e w1 ⟨rfl, k1⟩
  have K1 := hide k1
  clear k1
  go_wp2_with fail
  go_ret2
  exact ⟨rfl, K1.out⟩
theorem ralloc_nil (w : World) :
    Calls Try.prog 17 #[.pointer none] w fun e w' => e = .returned (.tuple #[.int .i64 0, .int .i64 1]) ∧ w = w' := by
  have v0 := rvalid_nil w
  go_enter Try.func17, Try.ntmps17
  go_wp2_with (go_at_call 40; refine v0.mono ?_; rintro e w' ⟨rfl, rfl⟩)
  go_ret2
  exact ⟨rfl, rfl⟩
theorem ralloc_t {B : Nat} {w : World} {r : Nat} {own : List Nat} {A : Ar} (h : RAt B w r own A) (ok : A.ok) (ps : A.pos) :
    Calls Try.prog 17 #[.pointer (some ⟨r, 0, none⟩)] w fun e w' => e = .returned (allocV A) ∧ RGoes B w r own A.alloc' w' := by
  rcases hf : A.fr with _ | ⟨i, rr⟩
  · by_cases hc : A.T.length < A.cap
    · have e1 : A.next = some A.T.length := by unfold Ar.next; rw [hf]; simp [hc]
      unfold allocV Ar.alloc'
      rw [e1]
      exact ralloc_fresh h ok ps hf hc
    · have e1 : A.next = none := by unfold Ar.next; rw [hf]; simp [hc]
      unfold allocV Ar.alloc'
      rw [e1]
      refine (ralloc_none h ok ps e1).mono ?_
      rintro e w' ⟨rfl, k⟩
      exact ⟨rfl, h.goes k⟩
  · have e1 : A.next = some i := by unfold Ar.next; rw [hf]
    unfold allocV Ar.alloc'
    rw [e1]
    exact ralloc_pop h ok ps hf

theorem blk_grown {w w' : World} {b : Nat} {x y : Obj} {o : Option Nat} (h : w.heap[b]? = some x) (g : (w.alloc y).grownBy w' o) (n : some b ≠ o) : w'.heap[b]? = some x := by
  have hb := lt_of_blk h
  rw [g.block b (by simp; omega) n, Below.heap_alloc _ _ _ hb]
  exact h
theorem one_srcN (w : World) (n : Nat) (hn : w.heap.size = n) (x : Value) (t : TypeId) : ∀ (j : Nat) (u : Value), [x][j]? = some u → (w.alloc (.cells #[x] t)).cell? ((⟨n, 0, none⟩ : Addr).add j) = some u := by
  subst hn; exact one_src w x t
theorem outs_free {A : Ar} (ok : A.ok) {i : Nat} (h : A.used i = true) : (outs A A.cap).set i (.bool false) = outs (A.free i) A.cap := by
  obtain ⟨f1, f2, f3⟩ := free_facts ok h
  exact outs_set f3 f1
theorem cnts_free (A : Ar) (i n : Nat) : cnts (A.free i) n = cnts A n := rfl
set_option maxRecDepth 100000 in
set_option maxHeartbeats 4000000 in
theorem rfree_ok {B : Nat} {w : World} {r : Nat} {own : List Nat} {A : Ar} (h : RAt B w r own A) (ok : A.ok) (i : Nat) (hu : A.used i = true) (hB : B ≤ w.heap.size) :
    Calls Try.prog 19 #[.pointer (some ⟨r, 0, none⟩), .int .i64 (i : Int)] w fun e w' => e = .returned (.int .i64 0) ∧ RGoes B w r own (A.free i) w' := by
  obtain ⟨f1, f2, hi⟩ := free_facts ok hu
  obtain ⟨vI, vC, vR, M, hown⟩ := h
  obtain ⟨c0, c1, c2, c3, c4⟩ := M.c
  obtain ⟨pI, cI, rfl⟩ := row_slice M.I
  obtain ⟨pR, cR, rfl⟩ := row_slice M.R
  obtain ⟨gI, rfl, hcI, hfI, _⟩ := row_cell M.I hi
  rw [outs_get A hi, hu] at hcI
  have v0 := rvalid_t r w c0
  have ex := rex_t r (i : Int) A.cap w c0 c1
  rw [show decide (0 ≤ (i : Int) ∧ (i : Int) < (A.cap : Int)) = true by simp; omega] at ex
  have OF := hide (outs_free ok hu)
  have MM := hide M
  have HO := hide hown
  have nd := nd_parts.1 M.nd
  have n1 : gI ≠ r := nd.ra gI rfl
  have n1' := Ne.symm n1
  have ND := hide nd
  have f4 := free_of_blk M.blk 4
  have FL := hide (show A.fr.length ≤ 65536 by have := A.fr_le ok; have := ok.le; have := ok.cap; omega)
  have HB := hide hB
  have rRi := hide (row_side M.R (b := gI) (fun k hk e => nd.ac gI rfl (by rw [hk, e])) i (.bool false))
  have bi := hide (blk_off M.blk n1 i (.bool false))
  obtain ⟨i0, hq, hz0, hz1, hz2⟩ := info_parts info3
  have HI := hide (And.intro hq (And.intro hz0 (And.intro hz1 hz2)))
  clear M hown nd f1 f2 hu ok c3 hB hq hz0 hz1 hz2
  go_enter Try.func19, Try.ntmps19
  go_wp2_with (first | (go_at_call 40; refine v0.mono ?_; rintro e w' ⟨rfl, rfl⟩) | (go_at_call 41; refine ex.mono ?_; rintro e w' ⟨rfl, rfl⟩) | (at_builtin; refine wpList_append_new _ rfl _ _ 51 rfl B 3 i0 (.int .i64 0) 1 8 Try.underlying51 HI.out.1 HI.out.2.1 HI.out.2.2.1 HI.out.2.2.2 rfl (by decide) (.slice pR A.fr.length cR) A.fr.length (ints A.fr.reverse) rfl (rRi.out.alloc _) ⟨w.heap.size, 0, none⟩ 1 1 [.int .i64 (i : Int)] rfl rfl (one_srcN _ _ (by simp [World.setCell]) _ 3) (by simp [Value.oneCell']) (by have := FL.out; unfold maxLen; omega) (by have := FL.out; omega) (by have := HB.out; simp [World.setCell]; omega) ?_))
  intro v' w' ho hg hn
  obtain ⟨p', c', rfl⟩ := row_slice ho
  have b1 := blk_grown (blk_off MM.out.blk n1 i (.bool false)) hg (fun e => ND.out.rc r e.symm rfl)
  have x4 : w'.cell? ⟨r, 4, none⟩ = some (.slice pR A.fr.length cR) := by simp [cell_of_blk b1]
  have y4 : w'.frozen? ⟨r, 4, none⟩ = false := free_of_blk b1 4
  have HG := hide (And.intro ho (And.intro hg (And.intro hn b1)))
  clear ho hg hn b1
  go_wp2_with fail
  go_ret
  obtain ⟨ho, hg, hn, b1⟩ := HG.out
  have M := MM.out
  have nd := ND.out
  have hsz : (w.setCell ⟨gI, i, none⟩ (.bool false)).heap.size = w.heap.size := by simp [World.setCell]
  have k1 : Kp own w (w.setCell ⟨gI, i, none⟩ (.bool false)) := Kp.set _ _ _ (by rw [HO.out]; simp [Value.ownBlock])
  have kb : Kp [] (w.setCell ⟨gI, i, none⟩ (.bool false)) ((w.setCell ⟨gI, i, none⟩ (.bool false)).alloc (.cells #[.int .i64 (i : Int)] 3)) := .of_below ((Below.refl _ _).alloc (Nat.le_refl _) _)
  have kg : Kp own ((w.setCell ⟨gI, i, none⟩ (.bool false)).alloc (.cells #[.int .i64 (i : Int)] 3)) w' := ⟨hg.os, hg.tape, hg.output, hg.size, fun k hk hno => hg.block k hk (fun e => hno (by rw [HO.out, ← e]; simp))⟩
  have k3 : Kp own w w' := (k1.trans (kb.mono (by simp) : Kp own _ _) (fun x hx => .inl hx)).trans kg (fun x hx => .inl hx)
  have fresh : ∀ k, (Value.slice p' (A.fr.length + 1) c').ownBlock = some k → (Value.slice pR A.fr.length cR).ownBlock = some k ∨ w.heap.size ≤ k := by
    intro k hk
    rcases hn with e | ⟨j, e, hj⟩
    · left; rw [← e]; exact hk
    · right
      rw [e] at hk
      injection hk with hk
      have hj2 : w.heap.size + 1 ≤ j := by simpa [World.setCell] using hj
      omega
  have notin : ∀ x, x < w.heap.size → (Value.slice pR A.fr.length cR).ownBlock ≠ some x → (Value.slice p' (A.fr.length + 1) c').ownBlock ≠ some x := by
    intro x hx hne e
    rcases fresh x e with h1 | h1
    · exact hne h1
    · omega
  have lI := (M.I.lt gI rfl).2
  have lr := lt_of_blk M.blk
  have nd2 : Apart r (Value.slice (some ⟨gI, 0, none⟩) A.cap cI).ownBlock vC.ownBlock (Value.slice p' (A.fr.length + 1) c').ownBlock := by
    refine ⟨nd.ra, nd.rb, fun k hk e => ?_, nd.ab, fun k hk => ?_, fun k hk => ?_⟩
    · subst e
      exact notin k lr (fun e => nd.rc k e rfl) hk
    · exact notin k (M.I.lt k hk).2 (nd.ac k hk)
    · exact notin k (M.C.lt k hk).2 (nd.bc k hk)
  have rI : w'.ownsRow B 4 1 (.slice (some ⟨gI, 0, none⟩) A.cap cI) A.cap (outs (A.free i) A.cap) := by
    have := row_put M.I i (.bool false)
    rw [OF.out] at this
    exact (this.alloc _).kept hg (.inr (fun e => nd.ac gI rfl e.symm))
  have rC : w'.ownsRow B 48 1 vC A.cap (cnts A A.cap) := by
    have := row_side M.C (b := gI) (fun k hk e => nd.ab gI rfl (by rw [hk, e])) i (.bool false)
    refine (this.alloc _).kept hg ?_
    cases hv : vC.ownBlock with
    | none => exact .inl rfl
    | some k => exact .inr (fun e => nd.bc k hv e.symm)
  refine ⟨rfl, _, ⟨.slice (some ⟨gI, 0, none⟩) A.cap cI, vC, .slice p' (A.fr.length + 1) c', ⟨?_, row_side rI (fun k hk => nd.ra k hk) 4 _, row_side rC (fun k hk => nd.rb k hk) 4 _, ?_, M.ge, nd_parts.2 nd2⟩, rfl⟩, fun k hk => ?_, k3.trans (Kp.set (o := own) _ _ _ (by rw [HO.out]; simp)) (fun x hx => .inl hx)⟩
  · rw [heap_setCell_same _ _ _ _ _ _ b1]
    simp [Ar.free]
  · have := row_side ho (b := r) (fun k hk => nd2.rc k hk) 4 (.slice p' (A.fr.length + 1) c')
    have e : ints (A.free i).fr.reverse = ints A.fr.reverse ++ [.int .i64 (i : Int)] := by simp [Ar.free, ints]
    rw [e]
    exact this
  · simp at hk
    rcases hk with rfl | hk | hk | hk
    · exact .inl (by rw [HO.out]; simp)
    · exact .inl (by rw [HO.out]; simp [hk])
    · exact .inl (by rw [HO.out]; simp [hk])
    · rcases fresh k hk with h1 | h1
      · exact .inl (by rw [HO.out]; simp [h1])
      · exact .inr h1
end Go.Proofs.Ytflblojmjdlhiaa
