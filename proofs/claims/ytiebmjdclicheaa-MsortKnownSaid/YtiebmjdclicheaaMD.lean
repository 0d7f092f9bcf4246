/- sort, of indexes. -/
import Derived.Test.YtiebmjdclicheaaMC
set_option linter.unusedVariables false
set_option linter.unusedSimpArgs false
namespace Go.Proofs.Ytiebmjdclicheaa
open Go.RowKit

section
variable {α : Type} (bf : α → α → Bool)
theorem mrgT_mem (y x : α) : ∀ a : List α, (x ∈ (mrgT bf y a).1 ∨ x ∈ (mrgT bf y a).2) → x ∈ a
  | [] => by simp [mrgT]
  | z :: r => by
    unfold mrgT
    split
    · simp
    · intro h
      have := mrgT_mem y x r
      simp at h ⊢
      rcases h with (h | h) | h
      · exact .inl h
      · exact .inr (this (.inl h))
      · exact .inr (this (.inr h))
theorem mrg_mem (x : α) : ∀ (b a : List α), x ∈ (mrg bf a b).1 → x ∈ a ∨ x ∈ b
  | [], a => by simp [mrg]
  | y :: b, a => by
    intro h
    simp [mrg] at h
    rcases h with h | h | h
    · exact .inl (mrgT_mem bf y x a (.inl h))
    · exact .inr (by simp [h])
    · rcases mrg_mem x b _ h with h | h
      · exact .inl (mrgT_mem bf y x a (.inr h))
      · exact .inr (by simp [h])
theorem srt_mem (x : α) : ∀ (f : Nat) (l : List α), x ∈ (srt bf f l).1 → x ∈ l
  | 0, _ => fun h => h
  | f + 1, l => by
    unfold srt
    split
    · exact fun h => h
    · intro h
      rcases mrg_mem bf x _ _ h with h | h
      · exact List.mem_of_mem_take (srt_mem x f _ h)
      · exact List.mem_of_mem_drop (srt_mem x f _ h)
end
theorem eqlL (a : Option Addr) (l c : Nat) (w : World) : (binOp .eql 35 (.slice a l c) (.slice none 0 0)).run Try.prog w = .ok (.bool a.isNone) w := by
  simp only [binOp]
  simp [run_equal_slice_nil w 35 3 a l c Try.underlying35]
theorem mkzL (w : World) : (Instr.buildSlice 35 0 #[]).run Try.prog w = .ok (.slice (some ⟨w.heap.size, 0, none⟩) 0 0) (w.alloc (.cells #[] 3)) := by kernel_rfl
theorem wpList_mkzL {w : World} {ops : Array Oper} {rest : List Oper} {o : Oper} {a : Act} {Q : Exit → Act → World → Prop} (hgd : o.guard = none) (ho : o.op = .buildSlice 35 0 #[])
    (h : wpList Try.prog ops Q rest (a.put o.dst (.slice (some ⟨w.heap.size, 0, none⟩) 0 0)) (w.alloc (.cells #[] 3))) : wpList Try.prog ops Q (o :: rest) a w := by
  refine wpList_plain hgd fun K hK => ?_
  have hr := mkzL w
  unfold Oper.wp
  simp only [execOp, ho]
  simp [hr, Result.andThen, Sem.run_bind]
  exact hK _ _ h
set_option maxRecDepth 100000 in
set_option maxHeartbeats 2000000 in
theorem cloneI_t {w : World} {p : Option Addr} {c : Nat} {l : List Int} (h : RdL w p l) (hn : l.length ≤ 65536) :
    Calls Try.prog 45 #[.slice p l.length c] w fun e w' => ∃ v, e = .returned v ∧ w'.ownsRow w.heap.size 3 1 v l.length (l.map encI) ∧ Kp [] w w' := by
  rcases p with _ | ad
  · have hz : l = [] := by
      rcases h with h | ⟨b, off, hp, _⟩
      · exact h
      · cases hp
    subst hz
    have q1 := eqlL none 0 c w
    clear h hn
    go_enter Try.func45, Try.ntmps45
    go_wp2_with fail
    go_ret
    exact ⟨_, rfl, World.ownsRow_nil _ _ _ _, Kp.refl _ _⟩
  · have q1 := eqlL (some ad) l.length c w
    obtain ⟨i0, hi, hz0, hz1, hz2⟩ := infoParts infoN
    have HI := hide (And.intro hi (And.intro hz0 (And.intro hz1 hz2)))
    have HB := hide hn
    have HS : Hid (∀ (j : Nat) (u : Value), (l.map encI)[j]? = some u → (w.alloc (.cells #[] 3)).cell? (ad.add j) = some u) := by
      intro j u hj
      rw [List.getElem?_map] at hj
      rcases h.below (Kp.alloc w (.cells #[] 3)) with h0 | ⟨b, off, hp, hb, hc⟩
      · rw [h0] at hj; simp at hj
      · have hp := Option.some.inj hp
        subst hp
        cases hx : l[j]? with
        | none => rw [hx] at hj; simp at hj
        | some x =>
          rw [hx] at hj
          simp at hj
          rw [Addr.add_lit, ← hj]
          exact hc j x hx
    have HL := hide (show (l.map encI).length = l.length by simp)
    have H1 : Hid (∀ u ∈ l.map encI, u.oneCell' = true) := by
      intro u hu
      obtain ⟨x, _, rfl⟩ := List.mem_map.1 hu
      rfl
    clear h hn hi hz0 hz1 hz2
    generalize l.map encI = xs at *
    generalize l.length = n at *
    go_enter Try.func45, Try.ntmps45
    go_wp2_with (first | refine wpList_mkzL rfl rfl ?_ | (at_builtin; refine wpList_append_own _ rfl _ _ 35 rfl w.heap.size 3 i0 (.int .i64 0) 1 8 Try.underlying35 HI.out.1 HI.out.2.1 HI.out.2.2.1 HI.out.2.2.2 rfl (by decide) (.slice (some ⟨w.heap.size, 0, none⟩) 0 0) 0 [] rfl (World.ownsRow_made w #[] 0 (Nat.le_refl _) (Nat.zero_le _) rfl) ad n c xs rfl (by rw [HL.out]; omega) HS.out H1.out (by have := HB.out; unfold maxLen; omega) (by have := HB.out; omega) (by simp) ?_))
    intro v' w' ho hg _
    have HO := hide ho
    have HK : Hid (Kp [] w w') := (Kp.of_below ((Below.refl _ _).alloc (Nat.le_refl _) _) : Kp [] w _).grown hg (fun x hx => by simp [Value.ownBlock] at hx; omega)
    clear ho hg
    go_wp2_with fail
    go_ret
    exact ⟨_, rfl, HO.out, HK.out⟩
/-- a row of numbers is a list to read -/
theorem RdL.row {w : World} {B n c : Nat} {p : Option Addr} {l : List Int} (h : w.ownsRow B 3 1 (.slice p n c) n (l.map encI)) : RdL w p l ∧ n = l.length ∧ n ≤ c ∧ c ≤ maxLen ∧ ((p = none ∧ c = 0) ∨ ∃ b off, p = some ⟨b, off, none⟩) := by
  have hl := h.1
  simp at hl
  rcases h.2 with ⟨he, h0⟩ | ⟨g, cap, cur, he, hb, hg, hnc, hcm, hcs, ht⟩
  · injection he with h1 h2 h3
    subst h1; subst h2; subst h3
    exact ⟨.inl (List.eq_nil_of_length_eq_zero hl), hl.symm, Nat.le_refl _, Nat.zero_le _, .inl ⟨rfl, rfl⟩⟩
  · injection he with h1 h2 h3
    subst h1; subst h3
    refine ⟨.inr ⟨g, 0, rfl, lt_of_blk hg, fun i x hx => ?_⟩, hl.symm, hnc, hcm, .inr ⟨g, 0, rfl⟩⟩
    have hi : i < n := by rw [← hl]; exact (List.getElem?_eq_some_iff.1 hx).1
    have := h.cellAt i (by omega)
    rw [List.getElem?_map, hx] at this
    simpa using this
set_option maxRecDepth 100000 in
set_option maxHeartbeats 16000000 in
theorem sortI_t {bf : Int → Int → Bool} {w0 : World} {k : Nat} {cap : Array Value} {l0 : List Int} (he : ∀ args w, (callFunc k args).run Try.prog w = .ok (.enter k args) w)
    (hc : ∀ W, Kp [] w0 W → ∀ x y : Int, x ∈ l0 → y ∈ l0 → Calls Try.prog k (#[.int .i64 y, .int .i64 x] ++ cap) W fun e W' => e = .returned (.bool (bf y x)) ∧ Kp [] W W') :
    ∀ (f : Nat) (l : List Int) (w : World) (p : Option Addr) (c : Nat), l.length ≤ f → l.length ≤ 65536 → l.length ≤ c → c ≤ maxLen → (∀ x ∈ l, x ∈ l0) → Kp [] w0 w → RdL w p l →
      Calls Try.prog 35 #[.slice p l.length c, .func (.func k) #[] cap] w fun e w' => ∃ v, e = .returned (.tuple #[v, .int .i64 ((srt bf f l).2 : Int)]) ∧ w'.ownsRow w.heap.size 3 1 v l.length ((srt bf f l).1.map encI) ∧ Kp [] w w' := by
  have HC := hide hc
  clear hc
  intro f
  induction f with
  | zero =>
    intro l w p c hf hn hlc hcm hin hk hr
    have CL := hide (cloneI_t (c := c) hr hn)
    obtain rfl : l = [] := List.eq_nil_of_length_eq_zero (by omega)
    clear hf hn hlc hcm hin hk hr
    go_enter Try.func35, Try.ntmps35
    go_wp2_with fail
    refine CL.out.mono ?_
    rintro e w1 ⟨v, rfl, r, k1⟩
    have R := hide (And.intro r k1)
    clear r k1
    go_wp2_with fail
    go_ret2
    exact ⟨v, rfl, R.out.1, R.out.2⟩
  | succ f ih =>
    intro l w p c hf hn hlc hcm hin hk hr
    by_cases h2 : l.length < 2
    · have CL := hide (cloneI_t (c := c) hr hn)
      have E : srt bf (f + 1) l = (l, 0) := by unfold srt; rw [if_pos h2]
      rw [E]
      obtain ⟨n, hnn⟩ : ∃ n, n = l.length := ⟨_, rfl⟩
      rw [← hnn] at CL h2 ⊢
      have dn : decide ((n : Int) < 2) = true := by simp; omega
      have dn' : decide (n < 2) = true := by simpa using h2
      clear hf hn hlc hcm hin hk hr E h2 hnn ih
      go_enter Try.func35, Try.ntmps35
      go_wp2_with fail
      refine CL.out.mono ?_
      rintro e w1 ⟨v, rfl, r, k1⟩
      have R := hide (And.intro r k1)
      clear r k1
      go_wp2_with fail
      go_ret2
      exact ⟨v, rfl, R.out.1, R.out.2⟩
    · obtain ⟨b, off, rfl, hb, hcell⟩ : ∃ b off, p = some ⟨b, off, none⟩ ∧ b < w.heap.size ∧ ∀ (i : Nat) (x : Int), l[i]? = some x → w.cell? ⟨b, off + i, none⟩ = some (encI x) := by
        rcases hr with h | h
        · rw [h] at h2; simp at h2
        · exact h
      obtain ⟨n, hnn⟩ : ∃ n, n = l.length := ⟨_, rfl⟩
      obtain ⟨h, hh⟩ : ∃ h, h = n / 2 := ⟨_, rfl⟩
      have e1 : (l.take h).length = h := by simp; omega
      have e2 : (l.drop h).length = n - h := by simp; omega
      have rA : RdL w (some ⟨b, off, none⟩) (l.take h) := .inr ⟨b, off, rfl, hb, fun i x hx => hcell i x (by
        rw [List.getElem?_take] at hx; split at hx
        · exact hx
        · cases hx)⟩
      have rB : RdL w (some ⟨b, off + h, none⟩) (l.drop h) := .inr ⟨b, off + h, rfl, hb, fun i x hx => by
        rw [List.getElem?_drop] at hx; rw [Nat.add_assoc]; exact hcell _ x hx⟩
      have IA := hide (ih (l.take h) w (some ⟨b, off, none⟩) c (by omega) (by omega) (by omega) hcm (fun x hx => hin x (List.mem_of_mem_take hx)) hk rA)
      have IB := hide (fun W (k1 : Kp [] w W) => ih (l.drop h) W (some ⟨b, off + h, none⟩) (c - h) (by omega) (by omega) (by omega) (by omega) (fun x hx => hin x (List.mem_of_mem_drop hx)) (hk.trans0 k1) (rB.below k1))
      rw [e1] at IA
      rw [e2] at IB
      have E : srt bf (f + 1) l = ((mrg bf (srt bf f (l.take h)).1 (srt bf f (l.drop h)).1).1, (srt bf f (l.take h)).2 + (srt bf f (l.drop h)).2 + (mrg bf (srt bf f (l.take h)).1 (srt bf f (l.drop h)).1).2) := by
        rw [hh, hnn]; conv => lhs; unfold srt
        rw [if_neg h2]
      rw [E]
      have mA : Hid (∀ x, x ∈ (srt bf f (l.take h)).1 → x ∈ l0) := fun x hx => hin x (List.mem_of_mem_take (srt_mem bf x f _ hx))
      have mB : Hid (∀ x, x ∈ (srt bf f (l.drop h)).1 → x ∈ l0) := fun x hx => hin x (List.mem_of_mem_drop (srt_mem bf x f _ hx))
      have lA := hide (show (srt bf f (l.take h)).1.length = h by rw [srt_len, e1])
      have lB := hide (show (srt bf f (l.drop h)).1.length = n - h by rw [srt_len, e2])
      have vA := srt_inv bf f (l.take h)
      have vB := srt_inv bf f (l.drop h)
      have vM := mrg_inv bf (srt bf f (l.drop h)).1 (srt bf f (l.take h)).1
      rw [lA.out, lB.out] at vM
      rw [e1] at vA
      rw [e2] at vB
      have x1 : h * h ≤ 65536 * 65536 := Nat.mul_le_mul (by omega) (by omega)
      have x2 : (n - h) * (n - h) ≤ 65536 * 65536 := Nat.mul_le_mul (by omega) (by omega)
      have x3 : h * (n - h) ≤ 65536 * 65536 := Nat.mul_le_mul (by omega) (by omega)
      have bA := hide (show (srt bf f (l.take h)).2 ≤ 4294967296 by omega)
      have bB := hide (show (srt bf f (l.drop h)).2 ≤ 4294967296 by omega)
      have bM := hide (show (mrg bf (srt bf f (l.take h)).1 (srt bf f (l.drop h)).1).2 ≤ 4294967296 by omega)
      have HK := hide hk
      have HH := hide (show h ≤ n ∧ n ≤ 65536 by omega)
      have HSUM := hide (show h + (n - h) = n by omega)
      have dn : decide ((n : Int) < 2) = false := by simp; omega
      have dn' : decide (n < 2) = false := by simp; omega
      have td : (n : Int).tdiv 2 = (h : Int) := by rw [hh]; rfl
      have td' : (n : Int) / 2 = (h : Int) := by rw [hh]; rfl
      have wh : IntKind.i64.wrap (h : Int) = (h : Int) := by rw [IntKind.wrap_i64]; omega
      have l1 : h ≤ n := by omega
      have l2 : h ≤ c := by omega
      have l3 : n ≤ c := by omega
      have l4 : ¬ c = h := by omega
      rw [← hnn]
      clear hf hn hlc hcm hin hk hr h2 hb hcell hnn hh e1 e2 rA rB E vA vB vM x1 x2 x3 ih
      generalize srt bf f (l.take h) = A at *
      generalize srt bf f (l.drop h) = B at *
      go_enter Try.func35, Try.ntmps35
      go_wp2_with fail
      refine IA.out.mono ?_
      rintro e w1 ⟨va, rfl, ra, k1⟩
      obtain ⟨pa, ca, rfl⟩ := row_slice ra
      have RA := hide ra
      have K1 := hide k1
      have IB1 := hide (IB.out _ k1)
      clear ra k1 IA IB
      go_wp2_with fail
      refine IB1.out.mono ?_
      rintro e w2 ⟨vb, rfl, rb, k2⟩
      obtain ⟨pb, cb, rfl⟩ := row_slice rb
      have qa := RdL.row (k2.row RA.out (by simp))
      have qb := RdL.row rb
      have K2 := hide (K1.out.trans0 k2)
      have MM := hide (mergeI_t (bf := bf) (la := A.1) (lb := B.1) (cb := cb) qa.1 qb.1 ⟨by rw [← qa.2.1]; exact qa.2.2.1, qa.2.2.2.1, qa.2.2.2.2⟩ (by rw [lA.out, lB.out]; have := HH.out; omega) he (fun W kW x y hx hy => HC.out W (HK.out.trans0 (K2.out.trans0 kW)) x y (mA.out x hx) (mB.out y hy)))
      rw [lA.out, lB.out, HSUM.out] at MM
      clear qa qb rb k2 IB1
      go_wp2_with fail
      refine MM.out.mono ?_
      rintro e w3 ⟨vm, rfl, rm, k3⟩
      obtain ⟨pm, cm, rfl⟩ := row_slice rm
      have RM := hide (row_mono rm K2.out.size)
      have K3 := hide (K2.out.trans0 k3)
      obtain ⟨iA, hiA⟩ : ∃ x, x = A.2 := ⟨_, rfl⟩
      obtain ⟨iB, hiB⟩ : ∃ x, x = B.2 := ⟨_, rfl⟩
      obtain ⟨iM, hiM⟩ : ∃ x, x = (mrg bf A.1 B.1).2 := ⟨_, rfl⟩
      have a1 : IntKind.i64.wrap ((A.2 : Int) + (B.2 : Int)) = ((A.2 + B.2 : Nat) : Int) := by have := bA.out; have := bB.out; rw [IntKind.wrap_i64]; omega
      obtain ⟨s1, hs1⟩ : ∃ s, s = A.2 + B.2 := ⟨_, rfl⟩
      rw [← hs1] at a1
      have a2 : IntKind.i64.wrap ((s1 : Int) + ((mrg bf A.1 B.1).2 : Int)) = ((A.2 + B.2 + (mrg bf A.1 B.1).2 : Nat) : Int) := by have := bA.out; have := bB.out; have := bM.out; rw [IntKind.wrap_i64]; omega
      obtain ⟨s2, hs2⟩ : ∃ s, s = A.2 + B.2 + (mrg bf A.1 B.1).2 := ⟨_, rfl⟩
      have HS2 := hide hs2
      rw [← hs2] at a2
      clear rm k3 MM hiA hiB hiM hs1 hs2
      go_wp2_with fail
      go_ret2
      exact ⟨_, by rw [← HS2.out]; rfl, RM.out, K3.out⟩
end Go.Proofs.Ytiebmjdclicheaa
