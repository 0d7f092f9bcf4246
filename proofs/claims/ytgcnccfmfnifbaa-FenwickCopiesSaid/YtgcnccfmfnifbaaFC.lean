/- Copy. -/
import Derived.Test.YtgcnccfmfnifbaaFM
set_option linter.unusedVariables false
set_option linter.unusedSimpArgs false
namespace Go.Proofs.Ytgcnccfmfnifbaa
open Go.RowKit

theorem infoParts {t : TypeId} {z : Value} {s y : Nat} (h : (Try.prog.info? t).map (fun i => (i.zero, i.size, i.bytes)) = some (some z, s, y)) : ∃ i, Try.prog.info? t = some i ∧ i.zero = some z ∧ i.size = s ∧ i.bytes = y := by
  cases hi : Try.prog.info? t with
  | none => rw [hi] at h; cases h
  | some i => rw [hi] at h; simp at h; exact ⟨i, rfl, h.1, h.2.1, h.2.2⟩
theorem eqlS (a : Option Addr) (l c : Nat) (w : World) : (binOp .eql 39 (.slice a l c) (.slice none 0 0)).run Try.prog w = .ok (.bool a.isNone) w := by
  simp only [binOp]
  simp [run_equal_slice_nil w 39 2 a l c Try.underlying39]
theorem mkzS (w : World) : (Instr.buildSlice 39 0 #[]).run Try.prog w = .ok (.slice (some ⟨w.heap.size, 0, none⟩) 0 0) (w.alloc (.cells #[] 2)) := by kernel_rfl
theorem wpList_mkzS {w : World} {ops : Array Oper} {rest : List Oper} {o : Oper} {a : Act} {Q : Exit → Act → World → Prop} (hgd : o.guard = none) (ho : o.op = .buildSlice 39 0 #[])
    (h : wpList Try.prog ops Q rest (a.put o.dst (.slice (some ⟨w.heap.size, 0, none⟩) 0 0)) (w.alloc (.cells #[] 2))) : wpList Try.prog ops Q (o :: rest) a w := by
  refine wpList_plain hgd fun K hK => ?_
  have hr := mkzS w
  unfold Oper.wp
  simp only [execOp, ho]
  simp [hr, Result.andThen, Sem.run_bind]
  exact hK _ _ h
set_option maxRecDepth 100000 in
set_option maxHeartbeats 2000000 in
theorem clone_t {B : Nat} {w : World} {p : Option Addr} {n c : Nat} {xs : List Value} (h : w.ownsRow B 2 1 (.slice p n c) n xs) (hn : n ≤ 65536) (h1 : ∀ u ∈ xs, u.oneCell' = true) :
    Calls Try.prog 37 #[.slice p n c] w fun e w' => ∃ v, e = .returned v ∧ w'.ownsRow w.heap.size 2 1 v n xs ∧ Kp [] w w' := by
  have hlen : xs.length = n := by have := h.1; simpa using this
  rcases p with _ | ad
  · have hz : n = 0 ∧ c = 0 := by
      rcases h.2 with ⟨he, h0⟩ | ⟨g, cap, cur, he, _⟩
      · injection he with _ _ h3; exact ⟨h0, h3⟩
      · injection he with e1; cases e1
    obtain ⟨rfl, rfl⟩ := hz
    have hx : xs = [] := List.eq_nil_of_length_eq_zero hlen
    subst hx
    have q1 := eqlS none 0 0 w
    clear h hn h1 hlen
    go_enter Try.func37, Try.ntmps37
    go_wp2_with fail
    go_ret
    exact ⟨_, rfl, World.ownsRow_nil _ _ _ _, Kp.refl _ _⟩
  · have q1 := eqlS (some ad) n c w
    obtain ⟨i0, hi, hz0, hz1, hz2⟩ := infoParts infoI
    have HI := hide (And.intro hi (And.intro hz0 (And.intro hz1 hz2)))
    have HB := hide hn
    have HS : Hid (∀ (j : Nat) (u : Value), xs[j]? = some u → (w.alloc (.cells #[] 2)).cell? (ad.add j) = some u) := by
      intro j u hj
      have hr := (Kp.alloc w (.cells #[] 2)).row h (by simp)
      have hjn : j < n := by rw [← hlen]; exact (List.getElem?_eq_some_iff.1 hj).1
      obtain ⟨g, hpp, e1, _⟩ := row_cell hr hjn
      have hpp := Option.some.inj hpp
      subst hpp
      rw [hj] at e1
      rw [Addr.add_lit, Nat.zero_add]
      exact e1
    have HL := hide hlen
    have H1 := hide h1
    clear h hn hi hz0 hz1 hz2 h1 hlen
    go_enter Try.func37, Try.ntmps37
    go_wp2_with (first | refine wpList_mkzS rfl rfl ?_ | (at_builtin; refine wpList_append_own _ rfl _ _ 39 rfl w.heap.size 2 i0 (.int .i64 0) 1 8 Try.underlying39 HI.out.1 HI.out.2.1 HI.out.2.2.1 HI.out.2.2.2 rfl (by decide) (.slice (some ⟨w.heap.size, 0, none⟩) 0 0) 0 [] rfl (World.ownsRow_made w #[] 0 (Nat.le_refl _) (Nat.zero_le _) rfl) ad n c xs rfl (by rw [HL.out]; omega) HS.out H1.out (by have := HB.out; unfold maxLen; omega) (by have := HB.out; omega) (by simp) ?_))
    intro v' w' ho hg _
    have HO := hide ho
    have HK : Hid (Kp [] w w') := (Kp.of_below ((Below.refl _ _).alloc (Nat.le_refl _) _) : Kp [] w _).grown hg (fun x hx => by simp [Value.ownBlock] at hx; omega)
    clear ho hg
    go_wp2_with fail
    go_ret
    exact ⟨_, rfl, by have := HO.out; simpa using this, HK.out⟩
theorem build_K (T : Int) (p : Option Addr) (n c : Nat) (w : World) : (Instr.build 41 #[(0, .bool true), (1, .int .i64 T), (2, .slice p n c)]).run Try.prog w = .ok (.agg #[.bool true, .int .i64 T, .slice p n c]) w := by kernel_rfl
set_option maxRecDepth 100000 in
set_option maxHeartbeats 4000000 in
theorem copy_t {B : Nat} {w : World} {b n : Nat} {own : List Nat} {C : Nat → Int} (h : FAt B w b n own C) :
    Calls Try.prog 18 #[.pointer (some ⟨b, 0, none⟩)] w fun e w' => ∃ b' own', e = .returned (.pointer (some ⟨b', 0, none⟩)) ∧ FAt w.heap.size w' b' n own' C ∧ Kp [] w w' := by
  have hp := upC'
  obtain ⟨⟨v, M, ho⟩, h1, h2, h3, h4⟩ := h
  have V := hide (valid_m M)
  obtain ⟨p, c, rfl⟩ := row_slice M.row
  have kd : Kp [] w w.drew := Kp.drewN [] w 1
  have hb := fun T p c W => build_K T p n c W
  have CL := hide (clone_t (kd.row M.row (by simp)) h4 (rowV_one fun i _ => rfl))
  have HM := hide (M.keep kd (by simp) (by simp))
  have HN := hide (show ∀ W (b' : Nat) v', FM w.heap.size W b' n v' (sumS C n) (tr C) → FAt w.heap.size W b' n (b' :: v'.ownBlock.toList) C from fun W b' v' M => ⟨⟨v', M, rfl⟩, h1, h2, h3, h4⟩)
  generalize sumS C n = T at *
  have S0 : w.drew.cell? ⟨b, 1, none⟩ = some (.int .i64 T) ∧ w.drew.cell? ⟨b, 2, none⟩ = some (.slice p n c) := by simp [cell_of_blk HM.out.blk]
  clear M ho h1 h2 h3 h4
  go_enter Try.func18, Try.ntmps18
  go_wp2_with fail
  refine V.out.mono ?_
  rintro e w' ⟨rfl, rfl⟩
  go_wp2_with fail
  go_region_held3 (fun w' => w'.cell? ⟨b, 1, none⟩ = some (.int .i64 T) ∧ w'.cell? ⟨b, 2, none⟩ = some (.slice p n c)) (first | with_reducible assumption)
    (first
      | ((with_reducible (refine CL.out.mono ?_)); rintro e w1 ⟨v1, rfl, hr, k1d⟩; obtain ⟨p1, n1, rfl⟩ := row_slice hr; have S1 : w1.cell? ⟨b, 1, none⟩ = some (.int .i64 T) ∧ w1.cell? ⟨b, 2, none⟩ = some (.slice p n c) := (by simp [cell_of_blk (k1d.blk HM.out.blk (by simp))]); have S2 : (w1.alloc (.cells #[.bool true, .int .i64 T, .slice p1 n n1] 41)).cell? ⟨b, 1, none⟩ = some (.int .i64 T) ∧ (w1.alloc (.cells #[.bool true, .int .i64 T, .slice p1 n n1] 41)).cell? ⟨b, 2, none⟩ = some (.slice p n c) := (by simp [cell_of_blk ((k1d.allocK (.cells #[.bool true, .int .i64 T, .slice p1 n n1] 41)).blk HM.out.blk (by simp))])))
  have KB := hide (kd.trans0 (k1d.allocK (.cells #[.bool true, .int .i64 T, .slice p1 n n1] 41)))
  have F := hide (HN.out _ _ _ (show FM w.heap.size (w1.alloc (.cells #[.bool true, .int .i64 T, .slice p1 n n1] 41)) w1.heap.size n (.slice p1 n n1) T (tr C) from
    ⟨heap_alloc_new _ _, (Kp.alloc _ _).row hr (by simp), fun k hk => by have := (hr.lt k hk).2; omega, k1d.size⟩))
  clear k1d hr kd S0 S1 S2 hb CL V
  go_wp2_with fail
  go_ret
  exact ⟨_, _, rfl, F.out, KB.out⟩
end Go.Proofs.Ytgcnccfmfnifbaa
