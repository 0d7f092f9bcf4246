/- sort, of records. -/
import Derived.Test.YtiebmjdclicheaaME
set_option linter.unusedVariables false
set_option linter.unusedSimpArgs false
namespace Go.Proofs.Ytiebmjdclicheaa
open Go.RowKit

theorem eqlS (a : Option Addr) (l c : Nat) (w : World) : (binOp .eql 31 (.slice a l c) (.slice none 0 0)).run Try.prog w = .ok (.bool a.isNone) w := by
  simp only [binOp]
  simp [run_equal_slice_nil w 31 24 a l c Try.underlying31]
theorem mkzS (w : World) : (Instr.buildSlice 31 0 #[]).run Try.prog w = .ok (.slice (some ⟨w.heap.size, 0, none⟩) 0 0) (w.alloc (.cells #[] 24)) := by kernel_rfl
theorem wpList_mkzS {w : World} {ops : Array Oper} {rest : List Oper} {o : Oper} {a : Act} {Q : Exit → Act → World → Prop} (hgd : o.guard = none) (ho : o.op = .buildSlice 31 0 #[])
    (h : wpList Try.prog ops Q rest (a.put o.dst (.slice (some ⟨w.heap.size, 0, none⟩) 0 0)) (w.alloc (.cells #[] 24))) : wpList Try.prog ops Q (o :: rest) a w := by
  refine wpList_plain hgd fun K hK => ?_
  have hr := mkzS w
  unfold Oper.wp
  simp only [execOp, ho]
  simp [hr, Result.andThen, Sem.run_bind]
  exact hK _ _ h
set_option maxRecDepth 100000 in
set_option maxHeartbeats 2000000 in
theorem cloneR_t {w : World} {p : Option Addr} {c : Nat} {l : List R4} (h : RdR w p l) (hn : l.length ≤ 65536) :
    Calls Try.prog 43 #[.slice p l.length c] w fun e w' => ∃ v, e = .returned v ∧ w'.ownsRow w.heap.size 24 4 v l.length (rows l) ∧ Kp [] w w' := by
  rcases p with _ | ad
  · have hz : l = [] := by
      rcases h with h | ⟨b, off, hp, _⟩
      · exact h
      · cases hp
    subst hz
    have q1 := eqlS none 0 c w
    clear h hn
    go_enter Try.func43, Try.ntmps43
    go_wp2_with fail
    go_ret
    exact ⟨_, rfl, World.ownsRow_nil _ _ _ _, Kp.refl _ _⟩
  · have q1 := eqlS (some ad) l.length c w
    obtain ⟨i0, hi, hz0, hz1, hz2⟩ := infoParts infoR
    have HI := hide (And.intro hi (And.intro hz0 (And.intro hz1 hz2)))
    have HB := hide hn
    have HS : Hid (∀ (j : Nat) (u : Value), (rows l)[j]? = some u → (w.alloc (.cells #[] 24)).cell? (ad.add j) = some u) := by
      intro j u hj
      rcases h.below (Kp.alloc w (.cells #[] 24)) with h0 | ⟨b, off, hp, hb, hc⟩
      · rw [h0] at hj; simp [rows] at hj
      · have hp := Option.some.inj hp
        subst hp
        rw [Addr.add_lit]
        exact rows_at hc j u hj
    have HL := hide (rows_len l)
    have H1 : Hid (∀ u ∈ rows l, u.oneCell' = true) := rows_one l
    clear h hn hi hz0 hz1 hz2
    generalize rows l = xs at *
    generalize l.length = n at *
    go_enter Try.func43, Try.ntmps43
    go_wp2_with (first | refine wpList_mkzS rfl rfl ?_ | (at_builtin; refine wpList_append_own _ rfl _ _ 31 rfl w.heap.size 24 i0 zR 4 32 Try.underlying31 HI.out.1 HI.out.2.1 HI.out.2.2.1 HI.out.2.2.2 rfl (by decide) (.slice (some ⟨w.heap.size, 0, none⟩) 0 0) 0 [] rfl (World.ownsRow_made w #[] 0 (Nat.le_refl _) (Nat.zero_le _) rfl) ad n c xs rfl HL.out HS.out H1.out (by have := HB.out; unfold maxLen; omega) (by have := HB.out; omega) (by simp) ?_))
    intro v' w' ho hg _
    have HO := hide ho
    have HK : Hid (Kp [] w w') := (Kp.of_below ((Below.refl _ _).alloc (Nat.le_refl _) _) : Kp [] w _).grown hg (fun x hx => by simp [Value.ownBlock] at hx; omega)
    clear ho hg
    go_wp2_with fail
    go_ret
    exact ⟨_, rfl, HO.out, HK.out⟩
/-- a row of records is a list to read -/
theorem RdR.row {w : World} {B n c : Nat} {p : Option Addr} {l : List R4} (h : w.ownsRow B 24 4 (.slice p n c) n (rows l)) : RdR w p l ∧ n = l.length ∧ n ≤ c ∧ c ≤ maxLen ∧ ((p = none ∧ c = 0) ∨ ∃ b off, p = some ⟨b, off, none⟩) := by
  have hl := h.1
  rw [rows_len] at hl
  rcases h.2 with ⟨he, h0⟩ | ⟨g, cap, cur, he, hb, hg, hnc, hcm, hcs, ht⟩
  · injection he with h1 h2 h3
    subst h1; subst h2; subst h3
    exact ⟨.inl (List.eq_nil_of_length_eq_zero (by omega)), by omega, Nat.le_refl _, Nat.zero_le _, .inl ⟨rfl, rfl⟩⟩
  · injection he with h1 h2 h3
    subst h1; subst h3
    refine ⟨.inr ⟨g, 0, rfl, lt_of_blk hg, fun i x hx => ?_⟩, by omega, hnc, hcm, .inr ⟨g, 0, rfl⟩⟩
    have hi : i < l.length := (List.getElem?_eq_some_iff.1 hx).1
    have c : ∀ j, j < 4 → w.cell? ⟨g, i * 4 + j, none⟩ = x.cells[j]? := fun j hj => by
      have := h.cellAt (i * 4 + j) (by omega)
      rw [rows_get l i j x hx hj] at this
      exact this
    rw [Nat.zero_add]
    exact ⟨c 0 (by omega), c 1 (by omega), c 2 (by omega), c 3 (by omega)⟩
set_option maxRecDepth 100000 in
set_option maxHeartbeats 16000000 in
theorem sortR_t {bf : R4 → R4 → Bool} {w0 : World} {k : Nat} {cap : Array Value} {l0 : List R4} (he : ∀ args w, (callFunc k args).run Try.prog w = .ok (.enter k args) w)
    (hc : ∀ W, Kp [] w0 W → ∀ x y : R4, x ∈ l0 → y ∈ l0 → Calls Try.prog k (#[y.val, x.val] ++ cap) W fun e W' => e = .returned (.bool (bf y x)) ∧ Kp [] W W') :
    ∀ (f : Nat) (l : List R4) (w : World) (p : Option Addr) (c : Nat), l.length ≤ f → l.length ≤ 65536 → l.length ≤ c → c ≤ maxLen → (∀ x ∈ l, x ∈ l0) → Kp [] w0 w → RdR w p l →
      Calls Try.prog 33 #[.slice p l.length c, .func (.func k) #[] cap] w fun e w' => ∃ v, e = .returned (.tuple #[v, .int .i64 ((srt bf f l).2 : Int)]) ∧ w'.ownsRow w.heap.size 24 4 v l.length (rows (srt bf f l).1) ∧ Kp [] w w' := by
  have HC := hide hc
  clear hc
  intro f
  induction f with
  | zero =>
    intro l w p c hf hn hlc hcm hin hk hr
    have CL := hide (cloneR_t (c := c) hr hn)
    obtain rfl : l = [] := List.eq_nil_of_length_eq_zero (by omega)
    clear hf hn hlc hcm hin hk hr
    go_enter Try.func33, Try.ntmps33
    go_wp2_with fail
    refine CL.out.mono ?_
    rintro e w1 ⟨v, rfl, r, k1⟩
    have R := hide (And.intro r k1)
    clear r k1
    go_wp2_with fail
    go_ret2
    exact ⟨v, rfl, R.out.1, R.out.2⟩
  | succ f ih =>
    intro l w p c hf hn hlc hcm hin hk hr
    by_cases h2 : l.length < 2
    · have CL := hide (cloneR_t (c := c) hr hn)
      have E : srt bf (f + 1) l = (l, 0) := by unfold srt; rw [if_pos h2]
      rw [E]
      obtain ⟨n, hnn⟩ : ∃ n, n = l.length := ⟨_, rfl⟩
      rw [← hnn] at CL h2 ⊢
      have dn : decide ((n : Int) < 2) = true := by simp; omega
      have dn' : decide (n < 2) = true := by simpa using h2
      clear hf hn hlc hcm hin hk hr E h2 hnn ih
      go_enter Try.func33, Try.ntmps33
      go_wp2_with fail
      refine CL.out.mono ?_
      rintro e w1 ⟨v, rfl, r, k1⟩
      have R := hide (And.intro r k1)
      clear r k1
      go_wp2_with fail
      go_ret2
      exact ⟨v, rfl, R.out.1, R.out.2⟩
    · obtain ⟨b, off, rfl, hb, hcell⟩ : ∃ b off, p = some ⟨b, off, none⟩ ∧ b < w.heap.size ∧ ∀ (i : Nat) (x : R4), l[i]? = some x → At4 w b (off + i * 4) x := by
        rcases hr with h | h
        · rw [h] at h2; simp at h2
        · exact h
      obtain ⟨n, hnn⟩ : ∃ n, n = l.length := ⟨_, rfl⟩
      obtain ⟨h, hh⟩ : ∃ h, h = n / 2 := ⟨_, rfl⟩
      have e1 : (l.take h).length = h := by simp; omega
      have e2 : (l.drop h).length = n - h := by simp; omega
      have rA : RdR w (some ⟨b, off, none⟩) (l.take h) := .inr ⟨b, off, rfl, hb, fun i x hx => hcell i x (by
        rw [List.getElem?_take] at hx; split at hx
        · exact hx
        · cases hx)⟩
      have rB : RdR w (some ⟨b, off + h * 4, none⟩) (l.drop h) := .inr ⟨b, off + h * 4, rfl, hb, fun i x hx => by
        rw [List.getElem?_drop] at hx; rw [show off + h * 4 + i * 4 = off + (h + i) * 4 by omega]; exact hcell _ x hx⟩
      have IA := hide (ih (l.take h) w (some ⟨b, off, none⟩) c (by omega) (by omega) (by omega) hcm (fun x hx => hin x (List.mem_of_mem_take hx)) hk rA)
      have IB := hide (fun W (k1 : Kp [] w W) => ih (l.drop h) W (some ⟨b, off + h * 4, none⟩) (c - h) (by omega) (by omega) (by omega) (by omega) (fun x hx => hin x (List.mem_of_mem_drop hx)) (hk.trans0 k1) (rB.below k1))
      rw [e1] at IA
      rw [e2] at IB
      have E : srt bf (f + 1) l = ((mrg bf (srt bf f (l.take h)).1 (srt bf f (l.drop h)).1).1, (srt bf f (l.take h)).2 + (srt bf f (l.drop h)).2 + (mrg bf (srt bf f (l.take h)).1 (srt bf f (l.drop h)).1).2) := by
        rw [hh, hnn]; conv => lhs; unfold srt
        rw [if_neg h2]
      rw [E]
      have mA : Hid (∀ x, x ∈ (srt bf f (l.take h)).1 → x ∈ l0) := fun x hx => hin x (List.mem_of_mem_take (srt_mem bf x f _ hx))
      have mB : Hid (∀ x, x ∈ (srt bf f (l.drop h)).1 → x ∈ l0) := fun x hx => hin x (List.mem_of_mem_drop (srt_mem bf x f _ hx))
      have lA := hide (show (srt bf f (l.take h)).1.length = h by rw [srt_len, e1])
      have lB := hide (show (srt bf f (l.drop h)).1.length = n - h by rw [srt_len, e2])
      have vA := srt_inv bf f (l.take h)
      have vB := srt_inv bf f (l.drop h)
      have vM := mrg_inv bf (srt bf f (l.drop h)).1 (srt bf f (l.take h)).1
      rw [lA.out, lB.out] at vM
      rw [e1] at vA
      rw [e2] at vB
      have x1 : h * h ≤ 65536 * 65536 := Nat.mul_le_mul (by omega) (by omega)
      have x2 : (n - h) * (n - h) ≤ 65536 * 65536 := Nat.mul_le_mul (by omega) (by omega)
      have x3 : h * (n - h) ≤ 65536 * 65536 := Nat.mul_le_mul (by omega) (by omega)
      have bA := hide (show (srt bf f (l.take h)).2 ≤ 4294967296 by omega)
      have bB := hide (show (srt bf f (l.drop h)).2 ≤ 4294967296 by omega)
      have bM := hide (show (mrg bf (srt bf f (l.take h)).1 (srt bf f (l.drop h)).1).2 ≤ 4294967296 by omega)
      have HK := hide hk
      have HH := hide (show h ≤ n ∧ n ≤ 65536 by omega)
      have HSUM := hide (show h + (n - h) = n by omega)
      have dn : decide ((n : Int) < 2) = false := by simp; omega
      have dn' : decide (n < 2) = false := by simp; omega
      have td : (n : Int).tdiv 2 = (h : Int) := by rw [hh]; rfl
      have td' : (n : Int) / 2 = (h : Int) := by rw [hh]; rfl
      have wh : IntKind.i64.wrap (h : Int) = (h : Int) := by rw [IntKind.wrap_i64]; omega
      have l1 : h ≤ n := by omega
      have l2 : h ≤ c := by omega
      have l3 : n ≤ c := by omega
      have l4 : ¬ c = h := by omega
      rw [← hnn]
      clear hf hn hlc hcm hin hk hr h2 hb hcell hnn hh e1 e2 rA rB E vA vB vM x1 x2 x3 ih
      generalize srt bf f (l.take h) = A at *
      generalize srt bf f (l.drop h) = B at *
      go_enter Try.func33, Try.ntmps33
      go_wp2_with fail
      refine IA.out.mono ?_
      rintro e w1 ⟨va, rfl, ra, k1⟩
      obtain ⟨pa, ca, rfl⟩ := row_slice ra
      have RA := hide ra
      have K1 := hide k1
      have IB1 := hide (IB.out _ k1)
      clear ra k1 IA IB
      go_wp2_with fail
      refine IB1.out.mono ?_
      rintro e w2 ⟨vb, rfl, rb, k2⟩
      obtain ⟨pb, cb, rfl⟩ := row_slice rb
      have qa := RdR.row (k2.row RA.out (by simp))
      have qb := RdR.row rb
      have K2 := hide (K1.out.trans0 k2)
      have MM := hide (mergeR_t (bf := bf) (la := A.1) (lb := B.1) (cb := cb) qa.1 qb.1 ⟨by rw [← qa.2.1]; exact qa.2.2.1, qa.2.2.2.1, qa.2.2.2.2⟩ (by rw [lA.out, lB.out]; have := HH.out; omega) he (fun W kW x y hx hy => HC.out W (HK.out.trans0 (K2.out.trans0 kW)) x y (mA.out x hx) (mB.out y hy)))
      rw [lA.out, lB.out, HSUM.out] at MM
      clear qa qb rb k2 IB1
      go_wp2_with fail
      refine MM.out.mono ?_
      rintro e w3 ⟨vm, rfl, rm, k3⟩
      obtain ⟨pm, cm, rfl⟩ := row_slice rm
      have RM := hide (row_mono rm K2.out.size)
      have K3 := hide (K2.out.trans0 k3)
      obtain ⟨iA, hiA⟩ : ∃ x, x = A.2 := ⟨_, rfl⟩
      obtain ⟨iB, hiB⟩ : ∃ x, x = B.2 := ⟨_, rfl⟩
      obtain ⟨iM, hiM⟩ : ∃ x, x = (mrg bf A.1 B.1).2 := ⟨_, rfl⟩
      have a1 : IntKind.i64.wrap ((A.2 : Int) + (B.2 : Int)) = ((A.2 + B.2 : Nat) : Int) := by have := bA.out; have := bB.out; rw [IntKind.wrap_i64]; omega
      obtain ⟨s1, hs1⟩ : ∃ s, s = A.2 + B.2 := ⟨_, rfl⟩
      rw [← hs1] at a1
      have a2 : IntKind.i64.wrap ((s1 : Int) + ((mrg bf A.1 B.1).2 : Int)) = ((A.2 + B.2 + (mrg bf A.1 B.1).2 : Nat) : Int) := by have := bA.out; have := bB.out; have := bM.out; rw [IntKind.wrap_i64]; omega
      obtain ⟨s2, hs2⟩ : ∃ s, s = A.2 + B.2 + (mrg bf A.1 B.1).2 := ⟨_, rfl⟩
      have HS2 := hide hs2
      rw [← hs2] at a2
      clear rm k3 MM hiA hiB hiM hs1 hs2
      go_wp2_with fail
      go_ret2
      exact ⟨_, by rw [← HS2.out]; rfl, RM.out, K3.out⟩
end Go.Proofs.Ytiebmjdclicheaa
