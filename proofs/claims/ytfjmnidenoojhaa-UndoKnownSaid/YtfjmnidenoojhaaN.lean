/- New. -/
import Derived.Test.YtfjmnidenoojhaaD
import Derived.Deep.OwnRows
set_option linter.unusedVariables false
set_option linter.unusedSimpArgs false
namespace Go.Proofs.Ytfjmnidenoojhaa
open Go.RowKit

theorem info_parts {t : TypeId} {z : Value} {s b : Nat} (h : (Try.prog.info? t).map (fun i => (i.zero, i.size, i.bytes)) = some (some z, s, b)) : ∃ i, Try.prog.info? t = some i ∧ i.zero = some z ∧ i.size = s ∧ i.bytes = b := by
  obtain ⟨i, hi, he⟩ := Option.map_eq_some_iff.1 h
  simp only [Prod.mk.injEq] at he
  exact ⟨i, hi, he.1, he.2.1, he.2.2⟩
def idF (k : Nat) : Nat → Nat := fun i => if i < k then i else 0
def oneF (k : Nat) : Nat → Nat := fun i => if i < k then 1 else 0
theorem idF_next (n k : Nat) : intsF n (upd (idF k) k k) = intsF n (idF (k + 1)) := by
  apply intsF_congr
  intro i hi
  unfold upd idF
  by_cases e : i = k
  · subst e; simp
  · have : i < k ↔ i < k + 1 := by omega
    simp [e, this]
theorem oneF_next (n k : Nat) : intsF n (upd (oneF k) k 1) = intsF n (oneF (k + 1)) := by
  apply intsF_congr
  intro i hi
  unfold upd oneF
  by_cases e : i = k
  · subst e; simp
  · have : i < k ↔ i < k + 1 := by omega
    simp [e, this]
theorem made_row (w : World) {B : Nat} (hB : B ≤ w.heap.size) (n : Nat) (h1 : n ≤ 65536) : (w.alloc (.cells (madeCells #[.int .i64 0] n) 3)).ownsRow B 3 1 (.slice (some ⟨w.heap.size, 0, none⟩) n n) n (intsF n (fun _ => 0)) := by
  refine ⟨by simp [intsF], .inr ⟨w.heap.size, n, madeCells #[.int .i64 0] n, rfl, hB, heap_alloc_new _ _, Nat.le_refl _, by unfold maxLen; omega, by simp [size_madeCells], ?_⟩⟩
  apply List.ext_getElem?
  intro i
  by_cases hi : i < n
  · rw [intsF_get _ hi]
    simp [madeCells, hi, Nat.mod_one]
  · rw [List.getElem?_eq_none (by simp; omega), List.getElem?_eq_none (by rw [intsF_len]; omega)]
theorem Kp.alloc {o : List Nat} (w : World) (x : Obj) : Kp o w (w.alloc x) := .of_below ((Below.refl _ _).alloc (Nat.le_refl _) _)
theorem two_made (w : World) (n : Nat) (h1 : n ≤ 65536) :
    ((w.alloc (.cells (madeCells #[.int .i64 0] n) 3)).alloc (.cells (madeCells #[.int .i64 0] n) 3)).ownsRow w.heap.size 3 1 (.slice (some ⟨w.heap.size, 0, none⟩) n n) n (intsF n (fun _ => 0)) ∧ ((w.alloc (.cells (madeCells #[.int .i64 0] n) 3)).alloc (.cells (madeCells #[.int .i64 0] n) 3)).ownsRow w.heap.size 3 1 (.slice (some ⟨w.heap.size + 1, 0, none⟩) n n) n (intsF n (fun _ => 0)) := by
  refine ⟨(Kp.alloc (o := []) _ _).row (made_row w (Nat.le_refl _) n h1) (by simp), ?_⟩
  have h := made_row (w.alloc (.cells (madeCells #[.int .i64 0] n) 3)) (B := w.heap.size) (by simp) n h1
  rw [show (w.alloc (.cells (madeCells #[.int .i64 0] n) 3)).heap.size = w.heap.size + 1 by simp] at h
  exact h
theorem newM (w : World) {B gP gS k n : Nat} (hk : w.heap.size = k) (hP : w.ownsRow B 3 1 (.slice (some ⟨gP, 0, none⟩) n n) n (intsF n (fun _ => 0))) (hS : w.ownsRow B 3 1 (.slice (some ⟨gS, 0, none⟩) n n) n (intsF n (fun _ => 0))) (n1 : gP ≠ k) (n2 : gS ≠ k) (n3 : gP ≠ gS) (hB : B ≤ k) :
    UM B (w.alloc (.cells #[.bool true, .slice (some ⟨gP, 0, none⟩) n n, .slice (some ⟨gS, 0, none⟩) n n, .slice none 0 0] 60)) k (.slice (some ⟨gP, 0, none⟩) n n) (.slice (some ⟨gS, 0, none⟩) n n) (.slice none 0 0) n (fun _ => 0) (fun _ => 0) [] := by
  subst hk
  exact ⟨heap_alloc_new _ _, (Kp.alloc (o := []) _ _).row hP (by simp), (Kp.alloc (o := []) _ _).row hS (by simp), World.ownsRow_nil _ _ _ _, hB, by constructor <;> simp [Value.ownBlock] <;> omega⟩
set_option maxRecDepth 100000 in
set_option maxHeartbeats 4000000 in
theorem new_t {B : Nat} (n : Nat) (h1 : n ≤ 65536) (w : World) (hB : B ≤ w.heap.size) :
    Calls Try.prog 12 #[.int .i64 (n : Int)] w fun e w' => ∃ b own, e = .returned (.tuple #[.pointer (some ⟨b, 0, none⟩), .int .i64 0]) ∧ UAt B w' b own n (fun i => i) (fun _ => 1) (fun i => i) (fun i => i) [] [] ∧ (∀ x ∈ own, w.heap.size ≤ x) ∧ Kp [] w w' := by
  have hmk : ∀ w : World, (Instr.makeSlice 49 (.int .i64 (n : Int)) (.int .i64 (n : Int))).run Try.prog w = .ok (.slice (some ⟨w.heap.size, 0, none⟩) n n) (w.alloc (.cells (madeCells #[.int .i64 0] n) 3)) :=
    fun w => run_make_row' 49 3 (.int .i64 0) 8 Try.underlying49 info3 rfl .i64 .i64 n (by omega) (by omega) w
  have d1 : decide ((n : Int) < 0) = false := by simp
  have d2 : decide ((65536 : Int) < (n : Int)) = false := by simp; omega
  have HN := hide h1
  have HB := hide hB
  clear hB
  go_enter Try.func12, Try.ntmps12
  go_wp2_with fail
  go_cut [4] from 5 (fun o wr => ∃ gP gS b : Nat, o = .pointer (some ⟨b, 0, none⟩) ∧ Hid (w.heap.size ≤ gP ∧ w.heap.size ≤ gS ∧ w.heap.size ≤ b) ∧ Hid (Kp [] w wr) ∧ Hid (gP ≠ b ∧ gS ≠ b ∧ gP ≠ gS) ∧ Hid (UM w.heap.size wr b (.slice (some ⟨gP, 0, none⟩) n n) (.slice (some ⟨gS, 0, none⟩) n n) (.slice none 0 0) n (fun _ => 0) (fun _ => 0) []))
  case first =>
    go_region_law (fail)
    all_goals
      go_wp2_with fail
      go_meet
    all_goals
      have K1 : Kp [] w w.drew := Kp.drewN [] w 1
      obtain ⟨r1, r2⟩ := two_made w.drew n HN.out
      rw [show w.drew.heap.size = w.heap.size from rfl] at r1 r2
      have sz : ((w.drew.alloc (.cells (madeCells #[.int .i64 0] n) 3)).alloc (.cells (madeCells #[.int .i64 0] n) 3)).heap.size = w.heap.size + 1 + 1 := by simp
      have KK := ((K1.trans (Kp.alloc (o := []) w.drew (.cells (madeCells #[.int .i64 0] n) 3)) (by simp)).trans (Kp.alloc (o := []) _ (.cells (madeCells #[.int .i64 0] n) 3)) (by simp))
      first
      | exact ⟨w.heap.size, w.heap.size + 1, w.heap.size + 1 + 1, rfl, ⟨by omega, by omega, by omega⟩, KK.trans (Kp.alloc (o := []) _ _) (by simp), ⟨by omega, by omega, by omega⟩, newM _ sz r1 r2 (by omega) (by omega) (by omega) (by omega)⟩
      | exact ⟨w.heap.size + 1, w.heap.size, w.heap.size + 1 + 1, rfl, ⟨by omega, by omega, by omega⟩, KK.trans (Kp.alloc (o := []) _ _) (by simp), ⟨by omega, by omega, by omega⟩, newM _ sz r2 r1 (by omega) (by omega) (by omega) (by omega)⟩
  case rest =>
    obtain ⟨gP, gS, b, rfl, hG, hK, hn, hM⟩ := hcut
    obtain ⟨n1, n2, n3⟩ := hn.out
    have n1' := Ne.symm n1
    have n2' := Ne.symm n2
    have n3' := Ne.symm n3
    go_wp2_with fail
    go_loopw [19] (fun x wr => ∃ k : Nat, k ≤ n ∧ x = .int .i64 (k : Int) ∧ Hid (UM w.heap.size wr b (.slice (some ⟨gP, 0, none⟩) n n) (.slice (some ⟨gS, 0, none⟩) n n) (.slice none 0 0) n (idF k) (oneF k) []) ∧ Hid (Kp [] w wr)) (fun x _ => n - (intOf x).toNat)
    case atStart => exact ⟨0, by omega, rfl, by rw [show idF 0 = fun _ => 0 from funext fun i => by simp [idF], show oneF 0 = fun _ => 0 from funext fun i => by simp [oneF]]; exact hM, hK⟩
    case round =>
      obtain ⟨k, hk, rfl, hM, hK⟩ := hrel
      by_cases hkn : k < n
      · obtain ⟨c0, c1, c2, c3⟩ := hM.out.c
        obtain ⟨_, hpp, e1, f1, _⟩ := row_cell hM.out.P hkn
        injection hpp with hpp; injection hpp with hpp; subst hpp
        obtain ⟨_, hss, e2, f2, _⟩ := row_cell hM.out.S hkn
        injection hss with hss; injection hss with hss; subst hss
        rw [intsF_get _ hkn] at e1 e2
        have ww : IntKind.i64.wrap ((k : Int) + 1) = ((k + 1 : Nat) : Int) := by rw [IntKind.wrap_i64]; omega
        have dk : decide ((k : Int) < (n : Int)) = true := by simp; omega
        clear c0 c3
        go_wp2_with fail
        go_roundw
        case rel =>
          have M := hM.out
          have p1 := row_put M.P k (.int .i64 (k : Int))
          rw [intsF_set, idF_next] at p1
          have p2 := row_side p1 (b := gS) (fun x hx => by simp [Value.ownBlock] at hx; omega) k (.int .i64 ((1 : Nat) : Int))
          have s1 := row_put (row_side M.S (b := gP) (fun x hx => by simp [Value.ownBlock] at hx; omega) k (.int .i64 (k : Int))) k (.int .i64 ((1 : Nat) : Int))
          rw [intsF_set, oneF_next] at s1
          refine ⟨k + 1, by omega, rfl, ⟨blk_off (blk_off M.blk n1 k _) n2 k _, p2, s1, World.ownsRow_nil _ _ _ _, M.ge, M.ap⟩, ?_⟩
          have KK := hK.out
          have hg := hG.out
          refine (KK.trans (Kp.set (o := [gP]) _ _ _ (by simp)) (by simp; omega)).trans (Kp.set (o := [gS]) _ _ _ (by simp)) (by simp; omega)
        case measure => simp [intOf]; omega
      · have : k = n := by omega
        subst this
        have dk : decide ((k : Int) < (k : Int)) = false := by simp
        go_wp2_with fail
        go_ret2
        have M := hM.out
        have hg := hG.out
        refine ⟨b, _, rfl, ⟨_, _, _, ⟨?_, ?_, ?_, World.ownsRow_nil _ _ _ _, ?_, M.ap⟩, .new, HN.out, rfl⟩, ?_, hK.out⟩
        · exact M.blk
        · have := row_mono M.P (B' := B) (by have := HB.out; omega)
          rw [intsF_congr (g := fun i => i) (fun i hi => by simp [idF, hi])] at this
          exact this
        · have := row_mono M.S (B' := B) (by have := HB.out; omega)
          rw [intsF_congr (g := fun _ => 1) (fun i hi => by simp [oneF, hi])] at this
          exact this
        · have := HB.out; omega
        · intro x hx
          simp [Value.ownBlock] at hx
          omega
end Go.Proofs.Ytfjmnidenoojhaa
