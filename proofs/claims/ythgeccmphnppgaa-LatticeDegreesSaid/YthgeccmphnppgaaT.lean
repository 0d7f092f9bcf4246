/- Edges with weights. -/
import Derived.Test.YthgeccmphnppgaaJ
import Derived.Test.YthgeccmphnppgaaOp
set_option linter.unusedVariables false
set_option linter.unusedSimpArgs false
namespace Go.Proofs.Ythgeccmphnppgaa
open Go.RowKit

/-- a slice that reads as a list of numbers -/
def RdW (w : World) (v : Value) (l : List Int) : Prop := ∃ p c, v = .slice p l.length c ∧ (l = [] ∨ ∃ b off, p = some ⟨b, off, none⟩ ∧ b < w.heap.size ∧ ∀ (i : Nat) (x : Int), l[i]? = some x → w.cell? ⟨b, off + i, none⟩ = some (.int .i64 x))
theorem RdW.keep {w w' : World} {v : Value} {l : List Int} (h : RdW w v l) (k : Below w.heap.size w w') : RdW w' v l := by
  obtain ⟨p, c, rfl, h⟩ := h
  refine ⟨p, c, rfl, ?_⟩
  rcases h with h | ⟨b, off, rfl, hb, hc⟩
  · exact .inl h
  · refine .inr ⟨b, off, rfl, Nat.lt_of_lt_of_le hb k.size, fun i t hi => ?_⟩
    rw [World.cell?_of_block (w := w) (k.block b hb)]
    exact hc i t hi
theorem RdW.slice {w : World} {v : Value} {l : List Int} (h : RdW w v l) : ∃ p c, v = .slice p l.length c := by
  obtain ⟨p, c, h, _⟩ := h
  exact ⟨p, c, h⟩
theorem RdW.at {w : World} {p : Option Addr} {n c : Nat} {l : List Int} (h : RdW w (.slice p n c) l) {i : Nat} {x : Int} (hi : l[i]? = some x) : ∃ b off, p = some ⟨b, off, none⟩ ∧ w.cell? ⟨b, off + i, none⟩ = some (.int .i64 x) := by
  obtain ⟨p', c', he, h⟩ := h
  injection he with h1 h2 h3
  subst h1
  rcases h with rfl | ⟨b, off, rfl, _, hc⟩
  · simp at hi
  · exact ⟨b, off, rfl, hc i x hi⟩
def zipW (l : List E3) (ws : List Int) : List E3 := List.zipWith (fun t x => (t.1, t.2.1, x)) l ws
def wR (l : List E3) (ws : List Int) : Int × List E3 := if l.length = ws.length then (0, zipW l ws) else (2, [])
theorem zipW_at {l : List E3} {ws : List Int} {i : Nat} {t : E3} {x : Int} (h1 : l[i]? = some t) (h2 : ws[i]? = some x) : (zipW l ws)[i]? = some (t.1, t.2.1, x) := by
  unfold zipW
  rw [List.getElem?_zipWith, h1, h2]
theorem zipW_len {l : List E3} {ws : List Int} (h : l.length = ws.length) : (zipW l ws).length = l.length := by
  unfold zipW
  rw [List.length_zipWith, h, Nat.min_self]
theorem wR_len (l : List E3) (ws : List Int) (h : l.length ≤ 1000) : (wR l ws).2.length ≤ 1000000 := by
  unfold wR
  split
  · rename_i e
    show (zipW l ws).length ≤ _
    rw [zipW_len e]; omega
  · simp
theorem wpList_pushN {ops : Array Oper} {rest : List Oper} {o : Oper} {a : Act} {Q : Exit → Act → World → Prop} (W : World) (n : Nat) (hn : W.heap.size = n) (hgd : o.guard = none) (s x : Operand)
    (ho : o.op = .call { callee := .builtin .append, args := #[s, x], argTypes := #[22, 22] }) (B : Nat) (v : Value) (l : List E3) (t : E3) (hs : a.eval s = v) (hx : a.eval x = .slice (some ⟨n, 0, none⟩) 1 1)
    (row : W.ownsRow B 50 3 v l.length (ecs l)) (hl : l.length ≤ 20000000) (hB : B ≤ W.heap.size)
    (h : ∀ v' w', w'.ownsRow B 50 3 v' (l ++ [t]).length (ecs (l ++ [t])) → (∀ w0, Kp [] w0 W → w0.heap.size ≤ B → Kp [] w0 w') → wpList Try.prog ops Q rest (a.put o.dst v') w') :
    wpList Try.prog ops Q (o :: rest) a (W.alloc (.cells #[.int .i64 t.1, .int .i64 t.2.1, .int .i64 t.2.2] 50)) := by
  subst hn
  exact wpList_push W hgd s x ho B v l t hs hx row hl hB h
set_option maxRecDepth 100000 in
set_option maxHeartbeats 8000000 in
theorem weights_28 (l : List E3) (ws : List Int) (hl : l.length ≤ 1000) (vl vw : Value) (W : World) (h1 : RdE W vl l) (h2 : RdW W vw ws) :
    Calls Try.prog 28 #[vl, vw] W fun e w' => ∃ v, e = .returned (.tuple #[v, .int .i64 (wR l ws).1]) ∧ RdE w' v (wR l ws).2 ∧ Below W.heap.size W w' := by
  obtain ⟨p, c, rfl⟩ := h1.slice
  obtain ⟨q, d, rfl⟩ := h2.slice
  by_cases he : l.length = ws.length
  · have e : wR l ws = (0, zipW l ws) := by unfold wR; rw [if_pos he]
    rw [e]
    have H1 := hide h1
    have H2 := hide h2
    have ZL := hide (zipW_len he)
    rw [← he]
    rw [← he] at H2
    clear h1 h2
    generalize hn : l.length = n at *
    have HN := hide hn
    have HE := hide he
    have nb := hl
    clear hn he e hl
    go_enter Try.func28, Try.ntmps28
    go_wp2_with fail
    go_loopw [6, 16] (fun v x wr => ∃ k : Nat, k ≤ n ∧ x = .int .i64 (k : Int) ∧ Hid (wr.ownsRow W.heap.size 50 3 v ((zipW l ws).take k).length (ecs ((zipW l ws).take k))) ∧ Hid (Kp [] W wr)) (fun _ x _ => n - (intOf x).toNat)
    case atStart => exact ⟨0, by omega, rfl, by rw [List.take_zero]; exact World.ownsRow_nil _ _ _ _, Kp.refl _ _⟩
    case round =>
      obtain ⟨k, hk, rfl, hR, hK⟩ := hrel
      by_cases hkn : k < n
      · have dk : decide (k < n) = true := by simp; omega
        have dki : decide ((k : Int) < (n : Int)) = true := by simp; omega
        have wk : IntKind.i64.wrap ((k : Int) + 1) = ((k + 1 : Nat) : Int) := by rw [IntKind.wrap_i64]; omega
        obtain ⟨t, ht⟩ : ∃ t, l[k]? = some t := ⟨_, List.getElem?_eq_getElem (by rw [HN.out]; exact hkn)⟩
        obtain ⟨x, hx⟩ : ∃ x, ws[k]? = some x := ⟨_, List.getElem?_eq_getElem (by have := HE.out; omega)⟩
        have bw := hK.out.below (B := W.heap.size) (by simp) (Nat.le_refl _)
        have ZT := hide (take_next (zipW_at ht hx))
        obtain ⟨b1, o1, rfl, e1, e2, e3⟩ := (H1.out.keep bw).at ht
        obtain ⟨b2, o2, rfl, f1⟩ := (H2.out.keep bw).at hx
        have kl : ((zipW l ws).take k).length ≤ 20000000 := by have := List.length_take_le k (zipW l ws); omega
        have KL := hide kl
        generalize (zipW l ws).take k = ll at *
        clear ht hx bw kl
        obtain ⟨t1, t2, t3⟩ := t
        simp only at e1 e2 e3 ZT
        have RA := hide (hR.out.alloc (.cells #[.int .i64 t1, .int .i64 t2, .int .i64 x] 50))
        have KA := hide (hK.out.trans (Kp.of_below (o := []) ((Below.refl _ _).alloc (Nat.le_refl _) (.cells #[.int .i64 t1, .int .i64 t2, .int .i64 x] 50))) (by simp))
        have f1' : (wr.alloc (.cells #[.int .i64 t1, .int .i64 t2, .int .i64 t3] 50)).cell? ⟨b2, o2 + k, none⟩ = some (.int .i64 x) := by
          rw [(show Below wr.heap.size wr (wr.alloc (.cells #[.int .i64 t1, .int .i64 t2, .int .i64 t3] 50)) from (Below.refl _ _).alloc (Nat.le_refl _) _).cell (p := ⟨b2, o2 + k, none⟩) (block_lt_of_cell f1)]
          exact f1
        clear f1
        go_wp2_with (at_builtin; refine wpList_pushN (wr.alloc (.cells #[.int .i64 t1, .int .i64 t2, .int .i64 x] 50)) (wr.heap.size + 1) (by simp) rfl _ _ rfl W.heap.size u6 ll (t1, t2, x) rfl rfl RA.out KL.out KA.out.size ?_)
        intro v' w' hr hk2
        have NX := hide (show w'.ownsRow W.heap.size 50 3 v' ((zipW l ws).take (k + 1)).length (ecs ((zipW l ws).take (k + 1))) by rw [ZT.out]; first | exact hr | simpa using hr)
        have KC := hide (hk2 W KA.out (Nat.le_refl _))
        clear hr hk2 RA KA hR hK ZT
        go_wp2_with fail
        go_roundw
        case rel => exact ⟨k + 1, by omega, rfl, NX, KC⟩
        case measure => simp [intOf]; omega
      · have : k = n := by omega
        subst this
        have dk : decide (k < k) = false := by simp
        have dki : decide ((k : Int) < (k : Int)) = false := by simp
        go_wp2_with fail
        go_ret2
        exact ⟨_, rfl, by have := RdE.of_row hR.out; rw [← ZL.out, List.take_length] at this; exact this, hK.out.below (by simp) (Nat.le_refl _)⟩
  · have e : wR l ws = (2, []) := by unfold wR; rw [if_neg he]
    rw [e]
    have dn : ((l.length : Int) == (ws.length : Int)) = false := by simp; omega
    have dn2 : ((l.length : Int) != (ws.length : Int)) = true := by simp; omega
    generalize l.length = n at *
    generalize ws.length = m at *
    clear h1 h2 e
    go_enter Try.func28, Try.ntmps28
    go_wp2_with fail
    go_ret2
    exact ⟨_, rfl, RdE.nil _, Below.refl _ _⟩
theorem build50c (x y z : Int) (w : World) : (Instr.build 50 #[(0, .int .i64 x), (1, .int .i64 y), (2, .int .i64 z)]).run Try.prog w = .ok (.agg #[.int .i64 x, .int .i64 y, .int .i64 z]) w := by kernel_rfl
set_option maxRecDepth 100000 in
set_option maxHeartbeats 8000000 in
theorem weights_29 (l : List E3) (ws : List Int) (hl : l.length ≤ 1000) (vl vw : Value) (W : World) (h1 : RdE W vl l) (h2 : RdW W vw ws) :
    Calls Try.prog 29 #[vl, vw] W fun e w' => ∃ v, e = .returned (.tuple #[v, .int .i64 (wR l ws).1]) ∧ RdE w' v (wR l ws).2 ∧ Below W.heap.size W w' := by
  obtain ⟨p, c, rfl⟩ := h1.slice
  obtain ⟨q, d, rfl⟩ := h2.slice
  by_cases he : l.length = ws.length
  · have e : wR l ws = (0, zipW l ws) := by unfold wR; rw [if_pos he]
    rw [e]
    have H1 := hide h1
    have H2 := hide h2
    have ZL := hide (zipW_len he)
    rw [← he]
    rw [← he] at H2
    clear h1 h2
    generalize hn : l.length = n at *
    have HN := hide hn
    have HE := hide he
    have nb := hl
    clear hn he e hl
    go_enter Try.func29, Try.ntmps29
    go_wp2_with fail
    go_loopw [6, 7] (fun v x wr => ∃ k : Nat, k ≤ n ∧ x = .int .i64 (k : Int) ∧ Hid (wr.ownsRow W.heap.size 50 3 v ((zipW l ws).take k).length (ecs ((zipW l ws).take k))) ∧ Hid (Kp [] W wr)) (fun _ x _ => n - (intOf x).toNat)
    case atStart => exact ⟨0, by omega, rfl, by rw [List.take_zero]; exact World.ownsRow_nil _ _ _ _, Kp.refl _ _⟩
    case round =>
      obtain ⟨k, hk, rfl, hR, hK⟩ := hrel
      by_cases hkn : k < n
      · have dk : decide (k < n) = true := by simp; omega
        have dki : decide ((k : Int) < (n : Int)) = true := by simp; omega
        have wk : IntKind.i64.wrap ((k : Int) + 1) = ((k + 1 : Nat) : Int) := by rw [IntKind.wrap_i64]; omega
        obtain ⟨t, ht⟩ : ∃ t, l[k]? = some t := ⟨_, List.getElem?_eq_getElem (by rw [HN.out]; exact hkn)⟩
        obtain ⟨x, hx⟩ : ∃ x, ws[k]? = some x := ⟨_, List.getElem?_eq_getElem (by have := HE.out; omega)⟩
        have bw := hK.out.below (B := W.heap.size) (by simp) (Nat.le_refl _)
        have ZT := hide (take_next (zipW_at ht hx))
        obtain ⟨b1, o1, rfl, e1, e2, e3⟩ := (H1.out.keep bw).at ht
        obtain ⟨b2, o2, rfl, f1⟩ := (H2.out.keep bw).at hx
        have kl : ((zipW l ws).take k).length ≤ 20000000 := by have := List.length_take_le k (zipW l ws); omega
        have KL := hide kl
        generalize (zipW l ws).take k = ll at *
        clear ht hx bw kl
        obtain ⟨t1, t2, t3⟩ := t
        simp only at e1 e2 e3 ZT
        have KD := hide (hK.out.trans (Kp.drewN [] wr 1) (by simp))
        have RD := hide (show wr.drew.ownsRow W.heap.size 50 3 u6 ll.length (ecs ll) from (Kp.drewN [] wr 1).row hR.out (by simp))
        have bd := build50c t1 t2 x
        clear hR
        go_wp2_with fail
        go_region_law (first | (refine step_push wr.drew rfl _ _ rfl W.heap.size u6 ll (t1, t2, x) rfl rfl RD.out KL.out (by have := KD.out.size; exact this) ?_; intro v' w' hr hk2; have NX := hide (show w'.ownsRow W.heap.size 50 3 v' ((zipW l ws).take (k + 1)).length (ecs ((zipW l ws).take (k + 1))) by rw [ZT.out]; first | exact hr | simpa using hr); have KC := hide (hk2 W KD.out (Nat.le_refl _)); clear hr hk2))
        all_goals
          go_wp2_with fail
          go_roundw
          case rel => exact ⟨k + 1, by omega, rfl, NX, KC⟩
          case measure => simp [intOf]; omega
      · have : k = n := by omega
        subst this
        have dk : decide (k < k) = false := by simp
        have dki : decide ((k : Int) < (k : Int)) = false := by simp
        go_wp2_with fail
        go_ret2
        exact ⟨_, rfl, by have := RdE.of_row hR.out; rw [← ZL.out, List.take_length] at this; exact this, hK.out.below (by simp) (Nat.le_refl _)⟩
  · have e : wR l ws = (2, []) := by unfold wR; rw [if_neg he]
    rw [e]
    have dn : ((l.length : Int) == (ws.length : Int)) = false := by simp; omega
    have dn2 : ((l.length : Int) != (ws.length : Int)) = true := by simp; omega
    generalize l.length = n at *
    generalize ws.length = m at *
    clear h1 h2 e
    go_enter Try.func29, Try.ntmps29
    go_wp2_with fail
    go_ret2
    exact ⟨_, rfl, RdE.nil _, Below.refl _ _⟩
end Go.Proofs.Ythgeccmphnppgaa
