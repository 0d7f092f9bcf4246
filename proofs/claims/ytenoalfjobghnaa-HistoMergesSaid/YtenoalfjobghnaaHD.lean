/- slices.Clone, and New. -/
import Derived.Test.YtenoalfjobghnaaHC
import Derived.Laws.Cover3
import Derived.Deep.OwnRows
set_option linter.unusedVariables false
set_option linter.unusedSimpArgs false
namespace Go.Proofs.Ytenoalfjobghnaa
open Go.RowKit

/-- n numbers from p on -/
def Rd1 (w : World) (p : Option Addr) (n : Nat) (V : Nat → Int) : Prop := n = 0 ∨ ∃ b off, p = some ⟨b, off, none⟩ ∧ b < w.heap.size ∧ ∀ i, i < n → w.cell? ⟨b, off + i, none⟩ = some (.int .i64 (V i))
theorem Rd1.below {w w' : World} {p : Option Addr} {n : Nat} {V : Nat → Int} (h : Rd1 w p n V) (k : Kp [] w w') : Rd1 w' p n V := by
  rcases h with h | ⟨b, off, rfl, hb, hc⟩
  · exact .inl h
  · refine .inr ⟨b, off, rfl, Nat.lt_of_lt_of_le hb k.size, fun i hi => ?_⟩
    have := (k.below (B := w.heap.size) (by simp) (Nat.le_refl _)).cell (p := ⟨b, off + i, none⟩) hb
    rw [this]; exact hc i hi
theorem Rd1.row {w : World} {B g n c : Nat} {V : Nat → Int} (h : w.ownsRow B 2 1 (.slice (some ⟨g, 0, none⟩) n c) n (intsI n V)) : Rd1 w (some ⟨g, 0, none⟩) n V :=
  .inr ⟨g, 0, rfl, (h.lt g rfl).2, fun i hi => by have := h.cellAt i (by omega); rw [intsI_get V hi] at this; simpa using this⟩
theorem infoI : (Try.prog.info? 2).map (fun i => (i.zero, i.size, i.bytes)) = some (some (.int .i64 0), 1, 8) := by kernel_rfl
theorem infoParts {t : TypeId} {z : Value} {s y : Nat} (h : (Try.prog.info? t).map (fun i => (i.zero, i.size, i.bytes)) = some (some z, s, y)) : ∃ i, Try.prog.info? t = some i ∧ i.zero = some z ∧ i.size = s ∧ i.bytes = y := by
  cases hi : Try.prog.info? t with
  | none => rw [hi] at h; cases h
  | some i => rw [hi] at h; simp at h; exact ⟨i, rfl, h.1, h.2.1, h.2.2⟩
theorem eqlS (a : Option Addr) (l c : Nat) (w : World) : (binOp .eql 22 (.slice a l c) (.slice none 0 0)).run Try.prog w = .ok (.bool a.isNone) w := by
  simp only [binOp]
  simp [run_equal_slice_nil w 22 2 a l c Try.underlying22]
theorem mkz (w : World) : (Instr.buildSlice 22 0 #[]).run Try.prog w = .ok (.slice (some ⟨w.heap.size, 0, none⟩) 0 0) (w.alloc (.cells #[] 2)) := by kernel_rfl
theorem wpList_mkz {w : World} {ops : Array Oper} {rest : List Oper} {o : Oper} {a : Act} {Q : Exit → Act → World → Prop} (hgd : o.guard = none) (ho : o.op = .buildSlice 22 0 #[])
    (h : wpList Try.prog ops Q rest (a.put o.dst (.slice (some ⟨w.heap.size, 0, none⟩) 0 0)) (w.alloc (.cells #[] 2))) : wpList Try.prog ops Q (o :: rest) a w := by
  refine wpList_plain hgd fun K hK => ?_
  have hr := mkz w
  unfold Oper.wp
  simp only [execOp, ho]
  simp [hr, Result.andThen, Sem.run_bind]
  exact hK _ _ h
set_option maxRecDepth 100000 in
set_option maxHeartbeats 2000000 in
theorem clone_t {w : World} {p : Option Addr} {n c : Nat} {V : Nat → Int} (h : Rd1 w p n V) (hn : n ≤ 65536) :
    Calls Try.prog 34 #[.slice p n c] w fun e w' => ∃ v, e = .returned v ∧ w'.ownsRow w.heap.size 2 1 v n (intsI n V) ∧ Kp [] w w' := by
  rcases p with _ | ad
  · have hz : n = 0 := by
      rcases h with h | ⟨b, off, hp, _⟩
      · exact h
      · cases hp
    subst hz
    have q1 := eqlS none 0 c w
    clear h hn
    go_enter Try.func34, Try.ntmps34
    go_wp2_with fail
    go_ret
    exact ⟨_, rfl, World.ownsRow_nil _ _ _ _, Kp.refl _ _⟩
  · have q1 := eqlS (some ad) n c w
    obtain ⟨i0, hi, hz0, hz1, hz2⟩ := infoParts infoI
    have HI := hide (And.intro hi (And.intro hz0 (And.intro hz1 hz2)))
    have HB := hide hn
    have HS : Hid (∀ (j : Nat) (u : Value), (intsI n V)[j]? = some u → (w.alloc (.cells #[] 2)).cell? (ad.add j) = some u) := by
      intro j u hj
      have hjn : j < n := by
        rcases Nat.lt_or_ge j n with h | h
        · exact h
        · rw [List.getElem?_eq_none (by rw [intsI_len]; exact h)] at hj; cases hj
      have := h.below (Kp.alloc (o := []) w (.cells #[] 2))
      rcases this with h0 | ⟨b, off, hp, hb, hc⟩
      · omega
      · injection hp with hp
        subst hp
        rw [intsI_get V hjn] at hj
        rw [Addr.add_lit, hc j hjn, ← hj]
    have HL := hide (intsI_len n V)
    have H1 := hide (intsI_one n V)
    clear h hn hi hz0 hz1 hz2
    generalize intsI n V = xs at *
    go_enter Try.func34, Try.ntmps34
    go_wp2_with (first | refine wpList_mkz rfl rfl ?_ | (at_builtin; refine wpList_append_own _ rfl _ _ 22 rfl w.heap.size 2 i0 (.int .i64 0) 1 8 Try.underlying22 HI.out.1 HI.out.2.1 HI.out.2.2.1 HI.out.2.2.2 rfl (by decide) (.slice (some ⟨w.heap.size, 0, none⟩) 0 0) 0 [] rfl (World.ownsRow_made w #[] 0 (Nat.le_refl _) (Nat.zero_le _) rfl) ad n c xs rfl (by rw [HL.out]; omega) HS.out H1.out (by have := HB.out; unfold maxLen; omega) (by have := HB.out; omega) (by simp) ?_))
    intro v' w' ho hg _
    have HO := hide ho
    have HK : Hid (Kp [] w w') := (Kp.of_below ((Below.refl _ _).alloc (Nat.le_refl _) _) : Kp [] w _).grown hg (fun x hx => by simp [Value.ownBlock] at hx; omega)
    clear ho hg
    go_wp2_with fail
    go_ret
    exact ⟨_, rfl, HO.out, HK.out⟩
theorem Kp.trans0 {a b c : World} (h : Kp [] a b) (k : Kp [] b c) : Kp [] a c := h.trans k (by simp)
theorem Kp.allocK {w W : World} (h : Kp [] w W) (o : Obj) : Kp [] w (W.alloc o) := h.trans0 (Kp.alloc _ _)
theorem madeI (w : World) {B : Nat} (hB : B ≤ w.heap.size) (n : Nat) (h1 : n ≤ 65536) : (w.alloc (.cells (madeCells #[.int .i64 0] n) 2)).ownsRow B 2 1 (.slice (some ⟨w.heap.size, 0, none⟩) n n) n (intsI n (fun _ => 0)) := by
  refine ⟨by simp [intsI], .inr ⟨w.heap.size, n, madeCells #[.int .i64 0] n, rfl, hB, heap_alloc_new _ _, Nat.le_refl _, by unfold maxLen; omega, by simp [size_madeCells], ?_⟩⟩
  apply List.ext_getElem?
  intro i
  by_cases hi : i < n
  · rw [intsI_get _ hi]
    simp [madeCells, hi, Nat.mod_one]
  · rw [List.getElem?_eq_none (by simp; omega), List.getElem?_eq_none (by rw [intsI_len]; omega)]
theorem HM.newA {B Bx : Nat} {w1 : World} {q : Option Addr} {n d m1 : Nat} {V : Nat → Int} (hm : m1 = n + 1) (hn : n ≤ 1024) (hB : B ≤ Bx) (hS : B ≤ w1.heap.size) (R : w1.ownsRow Bx 2 1 (.slice q n d) n (intsI n V)) :
    HM B ((w1.alloc (.cells (madeCells #[.int .i64 0] m1) 2)).alloc (.cells #[.slice q n d, .slice (some ⟨w1.heap.size, 0, none⟩) m1 m1] 54)) (w1.heap.size + 1) (.slice q n d) (.slice (some ⟨w1.heap.size, 0, none⟩) m1 m1) n V (fun _ => 0) := by
  subst hm
  have lt := R.lt
  have sz : (w1.alloc (.cells (madeCells #[.int .i64 0] (n + 1)) 2)).heap.size = w1.heap.size + 1 := by simp
  refine ⟨?_, ?_, ?_, by omega, fun k hk => ?_, fun k hk => ?_, fun k hk => ?_⟩
  · have := heap_alloc_new (w1.alloc (.cells (madeCells #[.int .i64 0] (n + 1)) 2)) (.cells #[.slice q n d, .slice (some ⟨w1.heap.size, 0, none⟩) (n + 1) (n + 1)] 54)
    rw [sz] at this
    exact this
  · exact row_mono ((Kp.alloc (o := []) _ _).row ((Kp.alloc (o := []) _ _).row R (by simp)) (by simp)) hB
  · exact (Kp.alloc (o := []) _ _).row (madeI w1 hS (n + 1) (by omega)) (by simp)
  · have := (lt k hk).2; omega
  · simp [Value.ownBlock] at hk; omega
  · have := (lt k hk).2; intro e; simp [Value.ownBlock] at e; omega
theorem HM.newB {B : Nat} {wr w1 : World} {q : Option Addr} {n d m1 : Nat} {V : Nat → Int} (hm : m1 = n + 1) (hn : n ≤ 1024) (hB : B ≤ wr.heap.size) (k1 : Kp [] (wr.alloc (.cells (madeCells #[.int .i64 0] m1) 2)).drew w1)
    (R : w1.ownsRow (wr.alloc (.cells (madeCells #[.int .i64 0] m1) 2)).drew.heap.size 2 1 (.slice q n d) n (intsI n V)) :
    HM B (w1.alloc (.cells #[.slice q n d, .slice (some ⟨wr.heap.size, 0, none⟩) m1 m1] 54)) w1.heap.size (.slice q n d) (.slice (some ⟨wr.heap.size, 0, none⟩) m1 m1) n V (fun _ => 0) := by
  subst hm
  have lt := R.lt
  have sz : (wr.alloc (.cells (madeCells #[.int .i64 0] (n + 1)) 2)).drew.heap.size = wr.heap.size + 1 := by show (wr.alloc _).heap.size = _; simp
  have s1 := k1.size
  rw [sz] at lt s1
  refine ⟨heap_alloc_new _ _, ?_, ?_, by omega, fun k hk => ?_, fun k hk => ?_, fun k hk => ?_⟩
  · exact row_mono ((Kp.alloc (o := []) _ _).row R (by simp)) (by rw [sz]; omega)
  · exact (Kp.alloc (o := []) _ _).row (k1.row ((Kp.drewN [] _ 1).row (madeI wr hB (n + 1) (by omega)) (by simp)) (by simp)) (by simp)
  · have := (lt k hk).2; omega
  · simp [Value.ownBlock] at hk; omega
  · have := (lt k hk).1; intro e; simp [Value.ownBlock] at e; omega
set_option maxRecDepth 100000 in
set_option maxHeartbeats 4000000 in
theorem new_t {w : World} {p : Option Addr} {n c : Nat} {V : Nat → Int} (h : Rd1 w p n V) (hn : n ≤ 1024) (inc : Inc V n) :
    Calls Try.prog 15 #[.slice p n c] w fun e w' => ∃ b vB vC, e = .returned (.tuple #[.pointer (some ⟨b, 0, none⟩), .int .i64 0]) ∧ HM w.heap.size w' b vB vC n V (fun _ => 0) ∧ Kp [] w w' := by
  have HH := hide h
  have HN := hide hn
  have HI := hide inc
  have d1 : decide ((1024 : Int) < (n : Int)) = false := by simp; omega
  clear h hn inc
  go_enter Try.func15, Try.ntmps15
  have hmk : ∀ w : World, (Instr.makeSlice 22 (.int .i64 ((n + 1 : Nat) : Int)) (.int .i64 ((n + 1 : Nat) : Int))).run Try.prog w = .ok (.slice (some ⟨w.heap.size, 0, none⟩) (n + 1) (n + 1)) (w.alloc (.cells (madeCells #[.int .i64 0] (n + 1)) 2)) :=
    fun w => run_make_row' 22 2 (.int .i64 0) 8 Try.underlying22 infoI rfl .i64 .i64 (n + 1) (by have := HN.out; omega) (by have := HN.out; omega) w
  have HMK := hide hmk
  clear hmk
  go_wp2_with fail
  go_loopw [4] (fun x wr => ∃ k : Nat, (k < n ∨ k = 0) ∧ x = .int .i64 ((k + 1 : Nat) : Int) ∧ Hid (Kp [] w wr)) (fun x _ => n - (intOf x).toNat)
  case atStart => exact ⟨0, .inr rfl, rfl, Kp.refl _ _⟩
  case round =>
    obtain ⟨k, hk, rfl, hK⟩ := hrel
    obtain ⟨k1, hk1⟩ : ∃ k1, k1 = k + 1 := ⟨_, rfl⟩
    rw [← hk1]
    by_cases hlt : k1 < n
    · have dk : decide ((k1 : Int) < (n : Int)) = true := by simp; omega
      have dk' : decide (k1 < n) = true := by simp; omega
      have ww : IntKind.i64.wrap ((k1 : Int) + 1) = ((k1 + 1 : Nat) : Int) := by have := HN.out; rw [IntKind.wrap_i64]; omega
      have ws : IntKind.i64.wrap ((k1 : Int) - 1) = (k : Int) := by have := HN.out; rw [IntKind.wrap_i64]; omega
      have hb1 : (k1 : Int) < (n : Int) := by omega
      have hb2 : (k : Int) < (n : Int) := by omega
      have I1 := HI.out k k1 (by omega) hlt
      have dv : decide (V k1 ≤ V k) = false := by simp; omega
      rcases HH.out.below hK.out with h0 | ⟨g, off, rfl, hg, hc⟩
      · omega
      · have e1 := hc k1 hlt
        have e2 := hc k (by omega)
        clear hc I1 hg
        have HL := hide (And.intro hlt hk1)
        clear hk hk1
        generalize V k1 = y1 at *
        generalize V k = y2 at *
        go_wp2_with fail
        go_quiet (fail)
        go_wp2_with fail
        go_roundw
        case rel => exact ⟨k1, .inl HL.out.1, by first | rfl | go_num, hK.out.trans (Kp.drewN [] _ _) (by simp)⟩
        case measure => simp [intOf]; have := HL.out.1; omega
    · have dk : decide ((k1 : Int) < (n : Int)) = false := by simp; omega
      have dk' : decide (k1 < n) = false := by simp; omega
      have hmk := HMK.out
      obtain ⟨m1, hm1⟩ : ∃ m1, m1 = n + 1 := ⟨_, rfl⟩
      rw [← hm1] at hmk
      have hn1 : (n : Int) + 1 = (m1 : Int) := by omega
      have aw : IntKind.i64.wrap (m1 : Int) = (m1 : Int) := by have := HN.out; rw [IntKind.wrap_i64]; omega
      have HM1 := hide hm1
      clear hm1
      have N := fun W (k : Kp [] w W) => hide (clone_t (c := c) (HH.out.below k) (by have := HN.out; omega))
      clear hk hk1 hlt
      go_wp2_with fail
      have K0 : Kp [] w wr.drew := hK.out.trans0 (Kp.drewN [] _ 1)
      have K00 : Kp [] w (wr.alloc (.cells (madeCells #[.int .i64 0] m1) 2)).drew := (hK.out.allocK _).trans0 (Kp.drewN [] _ 1)
      go_region_held3 (fun w' => Kp [] w w') (first | with_reducible assumption | (with_reducible (refine Kp.allocK ?_ _; assumption)))
        (first
          | (go_at_call 34; refine (N _ (by assumption)).out.mono ?_; rintro e w1 ⟨v, rfl, r1, k1⟩; obtain ⟨q1, d1, rfl⟩ := row_slice r1; have K1 : Kp [] w w1 := Kp.trans0 (by assumption) k1; have R1 := hide r1; have KK1 := hide k1; clear r1 k1))
      all_goals
        have sw := K1.size
        first
          | (have G := hide (HM.newA (B := w.heap.size) HM1.out HN.out (show w.heap.size ≤ wr.drew.heap.size from K0.size) sw R1.out); have GK := hide ((K1.allocK (.cells (madeCells #[.int .i64 0] m1) 2)).allocK (.cells #[.slice q1 n d1, .slice (some ⟨w1.heap.size, 0, none⟩) m1 m1] 54)); clear K0 K00 K1 KK1 R1; go_wp2_with fail; go_ret2; exact ⟨_, _, _, rfl, G.out, GK.out⟩)
          | (have G := hide (HM.newB (B := w.heap.size) HM1.out HN.out (show w.heap.size ≤ wr.heap.size from hK.out.size) KK1.out R1.out); have GK := hide (K1.allocK (.cells #[.slice q1 n d1, .slice (some ⟨wr.heap.size, 0, none⟩) m1 m1] 54)); clear K0 K00 K1 KK1 R1; go_wp2_with fail; go_ret2; exact ⟨_, _, _, rfl, G.out, GK.out⟩)
end Go.Proofs.Ytenoalfjobghnaa
