/- Appending an edge; complete graphs. -/
import Derived.Test.YthgeccmphnppgaaB
import Derived.Test.YthgeccmphnppgaaGen
import Derived.WalkMore
set_option linter.unusedVariables false
set_option linter.unusedSimpArgs false
namespace Go.Proofs.Ythgeccmphnppgaa
open Go.RowKit

theorem info_parts {t : TypeId} {z : Value} {s b : Nat} (h : (Try.prog.info? t).map (fun i => (i.zero, i.size, i.bytes)) = some (some z, s, b)) : ∃ i, Try.prog.info? t = some i ∧ i.zero = some z ∧ i.size = s ∧ i.bytes = b := by
  obtain ⟨i, hi, he⟩ := Option.map_eq_some_iff.1 h
  simp only [Prod.mk.injEq] at he
  exact ⟨i, hi, he.1, he.2.1, he.2.2⟩
theorem info50 : (Try.prog.info? 50).map (fun i => (i.zero, i.size, i.bytes)) = some (some (.agg #[.int .i64 0, .int .i64 0, .int .i64 0]), 3, 24) := by kernel_rfl
theorem build50 (x y : Int) (w : World) : (Instr.build 50 #[(0, .int .i64 x), (1, .int .i64 y)]).run Try.prog w = .ok (.agg #[.int .i64 x, .int .i64 y, .int .i64 0]) w := by kernel_rfl
theorem ec_cells (t : E3) : #[Value.int .i64 t.1, .int .i64 t.2.1, .int .i64 t.2.2] = (ec t).toArray := rfl
theorem ec_one (t : E3) : ∀ u ∈ ec t, u.oneCell' = true := by
  intro u hu
  simp [ec] at hu
  rcases hu with rfl | rfl | rfl <;> rfl
theorem push_out {W w' : World} {B : Nat} {v v' : Value} {l : List E3} {t : E3} (row : W.ownsRow B 50 3 v l.length (ecs l)) (h2 : w'.ownsRow B 50 3 v' (l.length + 1) (ecs l ++ ec t)) (g : (W.alloc (.cells #[.int .i64 t.1, .int .i64 t.2.1, .int .i64 t.2.2] 50)).grownBy w' v.ownBlock) :
    w'.ownsRow B 50 3 v' (l ++ [t]).length (ecs (l ++ [t])) ∧ ∀ w0, Kp [] w0 W → w0.heap.size ≤ B → Kp [] w0 w' := by
  refine ⟨?_, fun w0 k hb => ?_⟩
  · rw [List.length_append, ecs_append]
    have : ecs [t] = ec t := by simp [ecs]
    rw [this]
    exact h2
  · exact (k.trans (Kp.alloc' W _) (by simp)).grown g (fun x hx => by have := (row.lt x hx).1; omega)
where
  Kp.alloc' (w : World) (x : Obj) : Kp [] w (w.alloc x) := .of_below ((Below.refl _ _).alloc (Nat.le_refl _) _)
theorem wpList_push {ops : Array Oper} {rest : List Oper} {o : Oper} {a : Act} {Q : Exit → Act → World → Prop} (W : World) (hgd : o.guard = none) (s x : Operand)
    (ho : o.op = .call { callee := .builtin .append, args := #[s, x], argTypes := #[22, 22] }) (B : Nat) (v : Value) (l : List E3) (t : E3) (hs : a.eval s = v) (hx : a.eval x = .slice (some ⟨W.heap.size, 0, none⟩) 1 1)
    (row : W.ownsRow B 50 3 v l.length (ecs l)) (hl : l.length ≤ 20000000) (hB : B ≤ W.heap.size)
    (h : ∀ v' w', w'.ownsRow B 50 3 v' (l ++ [t]).length (ecs (l ++ [t])) → (∀ w0, Kp [] w0 W → w0.heap.size ≤ B → Kp [] w0 w') → wpList Try.prog ops Q rest (a.put o.dst v') w') :
    wpList Try.prog ops Q (o :: rest) a (W.alloc (.cells #[.int .i64 t.1, .int .i64 t.2.1, .int .i64 t.2.2] 50)) := by
  obtain ⟨i0, h1, h2, h3, h4⟩ := info_parts info50
  refine wpList_append_new _ hgd s x 22 ho B 50 i0 _ 3 24 Try.underlying22 h1 h2 h3 h4 rfl (by decide) v l.length (ecs l) hs (row.alloc _) ⟨W.heap.size, 0, none⟩ 1 1 (ec t) hx rfl (src_new W _ rfl (ec t) 50) (ec_one t) (by unfold maxLen; omega) (by omega) (by simp; omega) ?_
  intro v' w' r g _
  obtain ⟨q1, q2⟩ := push_out (t := t) row r g
  exact h v' w' q1 q2
theorem step_push {ops : Array Oper} {o : Oper} {a : Act} {K : Act → World → Prop} {Q : Exit → Act → World → Prop} {E : Prop} (W : World) (hgd : o.guard = none) (s x : Operand)
    (ho : o.op = .call { callee := .builtin .append, args := #[s, x], argTypes := #[22, 22] }) (B : Nat) (v : Value) (l : List E3) (t : E3) (hs : a.eval s = v) (hx : a.eval x = .slice (some ⟨W.heap.size, 0, none⟩) 1 1)
    (row : W.ownsRow B 50 3 v l.length (ecs l)) (hl : l.length ≤ 20000000) (hB : B ≤ W.heap.size)
    (h : ∀ v' w', w'.ownsRow B 50 3 v' (l ++ [t]).length (ecs (l ++ [t])) → (∀ w0, Kp [] w0 W → w0.heap.size ≤ B → Kp [] w0 w') → K (a.put o.dst v') w') :
    if Region.wanted o (yielded ops a.tmps) = true then Oper.wp Try.prog o a (W.alloc (.cells #[.int .i64 t.1, .int .i64 t.2.1, .int .i64 t.2.2] 50)) K Q else E := by
  obtain ⟨i0, h1, h2, h3, h4⟩ := info_parts info50
  refine step_append_new _ hgd s x 22 ho B 50 i0 _ 3 24 Try.underlying22 h1 h2 h3 h4 rfl (by decide) v l.length (ecs l) hs (row.alloc _) ⟨W.heap.size, 0, none⟩ 1 1 (ec t) hx rfl (src_new W _ rfl (ec t) 50) (ec_one t) (by unfold maxLen; omega) (by omega) (by simp; omega) ?_
  intro v' w' r g _
  obtain ⟨q1, q2⟩ := push_out (t := t) row r g
  exact h v' w' q1 q2
theorem RdE.nil (w : World) : RdE w (.slice none 0 0) [] := ⟨none, 0, rfl, .inl rfl⟩

/-- the edges from u to the vertices behind it, below k -/
def rowU (u : Nat) : Nat → List E3
  | 0 => []
  | k + 1 => rowU u k ++ if u < k then [((u : Int), (k : Int), 0)] else []
def compE (n : Nat) : Nat → List E3
  | 0 => []
  | k + 1 => compE n k ++ rowU k n
theorem rowU_none (u : Nat) : ∀ k, k ≤ u + 1 → rowU u k = [] := by
  intro k
  induction k with
  | zero => intro _; rfl
  | succ k ih => intro h; simp only [rowU, ih (by omega)]; rw [if_neg (by omega)]; rfl
theorem rowU_len (u : Nat) : ∀ k, (rowU u k).length ≤ k := by
  intro k
  induction k with
  | zero => simp [rowU]
  | succ k ih => simp only [rowU, List.length_append]; split <;> simp <;> omega
theorem compE_len (n : Nat) : ∀ k, (compE n k).length ≤ k * n := by
  intro k
  induction k with
  | zero => simp [compE]
  | succ k ih => simp only [compE, List.length_append, Nat.add_mul, Nat.one_mul]; have := rowU_len k n; omega
def compR (n : Int) : Int × List E3 := if n < 0 ∨ 4096 < n then (2, []) else if 16384 < n * (n - 1) / 2 then (16, []) else (0, compE n.toNat n.toNat)
set_option maxRecDepth 100000 in
set_option maxHeartbeats 8000000 in
theorem comp_22 (n : Int) (hn : I64 n) (w : World) : Calls Try.prog 22 #[.int .i64 n] w fun e w' => ∃ v, e = .returned (.tuple #[v, .int .i64 (compR n).1]) ∧ RdE w' v (compR n).2 ∧ Below w.heap.size w w' := by
  by_cases h0 : n < 0
  · have hc : compR n = (2, []) := by unfold compR; rw [if_pos (.inl h0)]
    rw [hc]
    go_enter Try.func22, Try.ntmps22
    go_wp2_with fail
    go_ret2
    exact ⟨_, rfl, RdE.nil _, Below.refl _ _⟩
  by_cases h1 : 4096 < n
  · have hc : compR n = (2, []) := by unfold compR; rw [if_pos (.inr h1)]
    rw [hc]
    go_enter Try.func22, Try.ntmps22
    go_wp2_with fail
    go_ret2
    exact ⟨_, rfl, RdE.nil _, Below.refl _ _⟩
  obtain ⟨m, rfl⟩ : ∃ m : Nat, n = (m : Int) := ⟨n.toNat, by omega⟩
  have hm : m ≤ 4096 := by omega
  have hp : 0 ≤ (m : Int) * ((m : Int) - 1) ∧ (m : Int) * ((m : Int) - 1) ≤ 16777216 := by
    rcases Nat.eq_zero_or_pos m with h | h
    · subst h; simp
    · have a : 0 ≤ (m : Int) * ((m : Int) - 1) := Int.mul_nonneg (by omega) (by omega)
      have b : (m : Int) * ((m : Int) - 1) ≤ 4096 * ((m : Int) - 1) := Int.mul_le_mul_of_nonneg_right (by omega) (by omega)
      omega
  have w1 : IntKind.i64.wrap ((m : Int) - 1) = (m : Int) - 1 := by rw [IntKind.wrap_i64]; omega
  have w2 : IntKind.i64.wrap ((m : Int) * ((m : Int) - 1)) = (m : Int) * ((m : Int) - 1) := by rw [IntKind.wrap_i64]; omega
  have d0 : decide ((m : Int) < 0) = false := by simp
  have d1 : decide ((4096 : Int) < (m : Int)) = false := by simp; omega
  obtain ⟨p, hpp⟩ : ∃ p, p = (m : Int) * ((m : Int) - 1) := ⟨_, rfl⟩
  rw [← hpp] at hp w2
  by_cases h2 : 16384 < p / 2
  · have hc : compR (m : Int) = (16, []) := by unfold compR; rw [if_neg (by omega), if_pos (by rw [← hpp]; exact h2)]
    rw [hc]
    have HP := hide hpp
    have w2' : IntKind.i64.wrap ((m : Int) * ((m : Int) - 1)) = p := by rw [← hpp]; exact w2
    clear hpp w2
    go_enter Try.func22, Try.ntmps22
    go_wp2_with fail
    go_ret2
    exact ⟨_, rfl, RdE.nil _, Below.refl _ _⟩
  · have hc : compR (m : Int) = (0, compE m m) := by unfold compR; rw [if_neg (by omega), if_neg (by rw [← hpp]; exact h2)]; simp
    rw [hc]
    have HP := hide hpp
    have HM := hide hm
    have d2 : decide ((16384 : Int) < p / 2) = false := by simpa using h2
    have w2' : IntKind.i64.wrap ((m : Int) * ((m : Int) - 1)) = p := by rw [← hpp]; exact w2
    have bd := build50
    clear hpp w2 hc hn h0 h1
    go_enter Try.func22, Try.ntmps22
    go_wp2_with fail
    clear w1 w2' d2 hp h2 hm
    go_loopw [2, 19] (fun v x wr => ∃ u : Nat, u ≤ m ∧ x = .int .i64 (u : Int) ∧ Hid (wr.ownsRow w.heap.size 50 3 v (compE m u).length (ecs (compE m u))) ∧ Hid (Kp [] w wr)) (fun _ x _ => m - (intOf x).toNat)
    case atStart => exact ⟨0, by omega, rfl, World.ownsRow_nil _ _ _ _, Kp.refl _ _⟩
    case round =>
      obtain ⟨u, hu, rfl, hR, hK⟩ := hrel
      by_cases hum : u < m
      · have dk : decide ((u : Int) < (m : Int)) = true := by simp; omega
        have dk2 : decide (u < m) = true := by simp; omega
        have wu : IntKind.i64.wrap ((u : Int) + 1) = ((u + 1 : Nat) : Int) := by have := HM.out; rw [IntKind.wrap_i64]; omega
        obtain ⟨wo, hwo⟩ : ∃ wo : World, wo = wr := ⟨_, rfl⟩
        rw [← hwo] at hR hK ⊢
        clear hwo
        go_wp2_with fail
        go_loopw [2, 5] (fun v x wr => ∃ k : Nat, k ≤ m ∧ u < k ∧ x = .int .i64 (k : Int) ∧ Hid (wr.ownsRow w.heap.size 50 3 v (compE m u ++ rowU u k).length (ecs (compE m u ++ rowU u k))) ∧ Hid (Kp [] w wr)) (fun _ x _ => m - (intOf x).toNat)
        case atStart => exact ⟨u + 1, by omega, by omega, by simp, by rw [rowU_none u (u + 1) (by omega), List.append_nil]; exact hR, hK⟩
        case round =>
          obtain ⟨k, hk, huk, rfl, hR, hK⟩ := hrel
          by_cases hkm : k < m
          · have dj : decide ((k : Int) < (m : Int)) = true := by simp; omega
            have dj2 : decide (k < m) = true := by simp; omega
            have wk : IntKind.i64.wrap ((k : Int) + 1) = ((k + 1 : Nat) : Int) := by have := HM.out; rw [IntKind.wrap_i64]; omega
            have hll : Hid ((compE m u ++ rowU u k).length ≤ 20000000) := by
              have a := compE_len m u
              have b := rowU_len u k
              have c : u * m ≤ 4096 * 4096 := Nat.mul_le_mul (by have := HM.out; omega) HM.out
              show (compE m u ++ rowU u k).length ≤ 20000000
              rw [List.length_append]
              have := HM.out
              omega
            go_wp2_with (at_builtin; refine wpList_push _ rfl _ _ rfl w.heap.size u2 (compE m u ++ rowU u k) ((u : Int), (k : Int), 0) rfl rfl hR.out hll.out hK.out.size ?_)
            intro v' w' hr hk2
            have HR2 := hide (show w'.ownsRow w.heap.size 50 3 v' (compE m u ++ rowU u (k + 1)).length (ecs (compE m u ++ rowU u (k + 1))) by simp only [rowU, if_pos huk]; simpa [List.append_assoc, Nat.add_assoc] using hr)
            have HK2 := hide (hk2 w hK.out (Nat.le_refl _))
            clear hr hk2 hR hK hll
            go_wp2_with fail
            go_roundw
            case rel => exact ⟨k + 1, by omega, by omega, rfl, HR2, HK2⟩
            case measure => simp [intOf]; omega
          · have : k = m := by omega
            subst this
            have dj : decide ((k : Int) < (k : Int)) = false := by simp
            go_wp2_with fail
            go_roundw
            case rel => exact ⟨u + 1, by omega, rfl, hR, hK⟩
            case measure => simp [intOf]; omega
      · have : u = m := by omega
        subst this
        have dk : decide ((u : Int) < (u : Int)) = false := by simp
        go_wp2_with fail
        go_ret2
        exact ⟨_, rfl, RdE.of_row hR.out, hK.out.below (by simp) (Nat.le_refl _)⟩
set_option maxRecDepth 100000 in
set_option maxHeartbeats 8000000 in
theorem comp_23 (n : Int) (hn : I64 n) (w : World) : Calls Try.prog 23 #[.int .i64 n] w fun e w' => ∃ v, e = .returned (.tuple #[v, .int .i64 (compR n).1]) ∧ RdE w' v (compR n).2 ∧ Below w.heap.size w w' := by
  by_cases h0 : n < 0
  · have hc : compR n = (2, []) := by unfold compR; rw [if_pos (.inl h0)]
    rw [hc]
    go_enter Try.func23, Try.ntmps23
    go_wp2_with fail
    go_ret2
    exact ⟨_, rfl, RdE.nil _, Below.refl _ _⟩
  by_cases h1 : 4096 < n
  · have hc : compR n = (2, []) := by unfold compR; rw [if_pos (.inr h1)]
    rw [hc]
    go_enter Try.func23, Try.ntmps23
    go_wp2_with fail
    go_ret2
    exact ⟨_, rfl, RdE.nil _, Below.refl _ _⟩
  obtain ⟨m, rfl⟩ : ∃ m : Nat, n = (m : Int) := ⟨n.toNat, by omega⟩
  have hm : m ≤ 4096 := by omega
  have hp : 0 ≤ (m : Int) * ((m : Int) - 1) ∧ (m : Int) * ((m : Int) - 1) ≤ 16777216 := by
    rcases Nat.eq_zero_or_pos m with h | h
    · subst h; simp
    · have a : 0 ≤ (m : Int) * ((m : Int) - 1) := Int.mul_nonneg (by omega) (by omega)
      have b : (m : Int) * ((m : Int) - 1) ≤ 4096 * ((m : Int) - 1) := Int.mul_le_mul_of_nonneg_right (by omega) (by omega)
      omega
  have w1 : IntKind.i64.wrap ((m : Int) - 1) = (m : Int) - 1 := by rw [IntKind.wrap_i64]; omega
  have w2 : IntKind.i64.wrap ((m : Int) * ((m : Int) - 1)) = (m : Int) * ((m : Int) - 1) := by rw [IntKind.wrap_i64]; omega
  have d0 : decide ((m : Int) < 0) = false := by simp
  have d1 : decide ((4096 : Int) < (m : Int)) = false := by simp; omega
  obtain ⟨p, hpp⟩ : ∃ p, p = (m : Int) * ((m : Int) - 1) := ⟨_, rfl⟩
  rw [← hpp] at hp w2
  by_cases h2 : 16384 < p / 2
  · have hc : compR (m : Int) = (16, []) := by unfold compR; rw [if_neg (by omega), if_pos (by rw [← hpp]; exact h2)]
    rw [hc]
    have HP := hide hpp
    have w2' : IntKind.i64.wrap ((m : Int) * ((m : Int) - 1)) = p := by rw [← hpp]; exact w2
    clear hpp w2
    go_enter Try.func23, Try.ntmps23
    go_wp2_with fail
    go_ret2
    exact ⟨_, rfl, RdE.nil _, Below.refl _ _⟩
  · have hc : compR (m : Int) = (0, compE m m) := by unfold compR; rw [if_neg (by omega), if_neg (by rw [← hpp]; exact h2)]; simp
    rw [hc]
    have HP := hide hpp
    have HM := hide hm
    have d2 : decide ((16384 : Int) < p / 2) = false := by simpa using h2
    have w2' : IntKind.i64.wrap ((m : Int) * ((m : Int) - 1)) = p := by rw [← hpp]; exact w2
    have bd := build50
    clear hpp w2 hc hn h0 h1
    go_enter Try.func23, Try.ntmps23
    go_wp2_with fail
    clear w1 w2' d2 hp h2 hm
    go_loopw [4, 5] (fun v x wr => ∃ u : Nat, u ≤ m ∧ x = .int .i64 (u : Int) ∧ Hid (wr.ownsRow w.heap.size 50 3 v (compE m u).length (ecs (compE m u))) ∧ Hid (Kp [] w wr)) (fun _ x _ => m - (intOf x).toNat)
    case atStart => exact ⟨0, by omega, rfl, World.ownsRow_nil _ _ _ _, Kp.refl _ _⟩
    case round =>
      obtain ⟨u, hu, rfl, hR, hK⟩ := hrel
      by_cases hum : u < m
      · have dk : decide ((u : Int) < (m : Int)) = true := by simp; omega
        have dk2 : decide (u < m) = true := by simp; omega
        have wu : IntKind.i64.wrap ((u : Int) + 1) = ((u + 1 : Nat) : Int) := by have := HM.out; rw [IntKind.wrap_i64]; omega
        obtain ⟨wo, hwo⟩ : ∃ wo : World, wo = wr := ⟨_, rfl⟩
        rw [← hwo] at hR hK ⊢
        clear hwo
        go_wp2_with fail
        go_loopw [4, 6] (fun v x wr => ∃ k : Nat, k ≤ m ∧ u < k ∧ x = .int .i64 (k : Int) ∧ Hid (wr.ownsRow w.heap.size 50 3 v (compE m u ++ rowU u k).length (ecs (compE m u ++ rowU u k))) ∧ Hid (Kp [] w wr)) (fun _ x _ => m - (intOf x).toNat)
        case atStart => exact ⟨u + 1, by omega, by omega, by simp, by rw [rowU_none u (u + 1) (by omega), List.append_nil]; exact hR, hK⟩
        case round =>
          obtain ⟨k, hk, huk, rfl, hR, hK⟩ := hrel
          by_cases hkm : k < m
          · have dj : decide ((k : Int) < (m : Int)) = true := by simp; omega
            have dj2 : decide (k < m) = true := by simp; omega
            have wk : IntKind.i64.wrap ((k : Int) + 1) = ((k + 1 : Nat) : Int) := by have := HM.out; rw [IntKind.wrap_i64]; omega
            have hll : Hid ((compE m u ++ rowU u k).length ≤ 20000000) := by
              have a := compE_len m u
              have b := rowU_len u k
              have c : u * m ≤ 4096 * 4096 := Nat.mul_le_mul (by have := HM.out; omega) HM.out
              show (compE m u ++ rowU u k).length ≤ 20000000
              rw [List.length_append]
              have := HM.out
              omega
            go_wp2_with (at_builtin; refine wpList_push _ rfl _ _ rfl w.heap.size u4 (compE m u ++ rowU u k) ((u : Int), (k : Int), 0) rfl rfl hR.out hll.out hK.out.size ?_)
            intro v' w' hr hk2
            have HR2 := hide (show w'.ownsRow w.heap.size 50 3 v' (compE m u ++ rowU u (k + 1)).length (ecs (compE m u ++ rowU u (k + 1))) by simp only [rowU, if_pos huk]; simpa [List.append_assoc, Nat.add_assoc] using hr)
            have HK2 := hide (hk2 w hK.out (Nat.le_refl _))
            clear hr hk2 hR hK hll
            go_wp2_with fail
            go_roundw
            case rel => exact ⟨k + 1, by omega, by omega, rfl, HR2, HK2⟩
            case measure => simp [intOf]; omega
          · have : k = m := by omega
            subst this
            have dj : decide ((k : Int) < (k : Int)) = false := by simp
            go_wp2_with fail
            go_roundw
            case rel => exact ⟨u + 1, by omega, rfl, hR, hK⟩
            case measure => simp [intOf]; omega
      · have : u = m := by omega
        subst this
        have dk : decide ((u : Int) < (u : Int)) = false := by simp
        go_wp2_with fail
        go_ret2
        exact ⟨_, rfl, RdE.of_row hR.out, hK.out.below (by simp) (Nat.le_refl _)⟩
end Go.Proofs.Ythgeccmphnppgaa
