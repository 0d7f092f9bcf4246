/- Prefix, Range, Get. -/
import Derived.Test.YtgcnccfmfnifbaaSt
import Derived.StillTailTactics
set_option linter.unusedVariables false
set_option linter.unusedSimpArgs false
namespace Go.Proofs.Ytgcnccfmfnifbaa
open Go.RowKit Go.Shelf

attribute [local go_sem] Oper.semAt_some

theorem parts_in (F : Fence) (n : Nat) (hF : F.fn 39) (hro : F.round = none) (z : Int) (w : World) :
    CallsIn F n Try.prog 39 #[.int .i64 z] w fun e w' => e = .returned (.func (.func 42) #[] #[.pointer (some ⟨w.heap.size, 0, none⟩)]) ∧ w' = w.alloc (.cells #[.int .i64 z] 3) := by
  refine callsIn_of_wp Try.func39 rfl hF ?_ hro
  simp only [Try.ntmps39, List.size_toArray, List.length_cons, List.length_nil, Nat.reduceAdd, Nat.reduceSub, Array.replicate_succ, Array.replicate_zero, List.push_toArray, List.append_toArray, List.nil_append, List.cons_append]
  gi_wp2
  go_ret
  exact ⟨rfl, rfl⟩
def clipN (k : Int) (n : Nat) : Nat := if k < 0 then 0 else min k.toNat n
set_option maxRecDepth 100000 in
set_option maxHeartbeats 8000000 in
theorem prefix_t {B : Nat} {w : World} {b n : Nat} {own : List Nat} {C : Nat → Int} (h : FAt B w b n own C) (k : Int) :
    Calls Try.prog 22 #[.pointer (some ⟨b, 0, none⟩), .int .i64 k] w fun e w' => e = .returned (.int .i64 (sumS C (clipN k n))) ∧ Kp [] w w' := by
  have hp := upC'
  obtain ⟨⟨v, M, ho⟩, hnn, hout, htot, hn⟩ := h
  have VM := hide (fun W (kW : Kp [] w W) => valid_m (M.keep kW (by simp) (by simp)))
  obtain ⟨p, c, rfl⟩ := row_slice M.row
  have HM := hide M
  have HN := hide hn
  have hbw := M.lt
  obtain ⟨m, hm⟩ : ∃ m, (if (n : Int) < k then (n : Int) else k) = m := ⟨_, rfl⟩
  have HZ := hide (show m = (clipN k n : Int) ∨ (m ≤ 0 ∧ clipN k n = 0) by unfold clipN; subst hm; split <;> split <;> omega)
  have HCL := hide (show clipN k n ≤ n by unfold clipN; split <;> omega)
  have k1 := (Kp.alloc w (.cells #[.pointer (some ⟨b, 0, none⟩)] 24)).allocK (.cells #[.int .i64 0] 2)
  obtain ⟨c0, c1, c2⟩ : ((w.alloc (.cells #[.pointer (some ⟨b, 0, none⟩)] 24)).alloc (.cells #[.int .i64 0] 2)).cell? ⟨b, 0, none⟩ = some (.bool true) ∧ ((w.alloc (.cells #[.pointer (some ⟨b, 0, none⟩)] 24)).alloc (.cells #[.int .i64 0] 2)).cell? ⟨b, 1, none⟩ = some (.int .i64 (sumS C n)) ∧ ((w.alloc (.cells #[.pointer (some ⟨b, 0, none⟩)] 24)).alloc (.cells #[.int .i64 0] 2)).cell? ⟨b, 2, none⟩ = some (.slice p n c) := by simp [cell_of_blk (k1.blk HM.out.blk (by simp))]
  have K1 := hide k1
  have HT := hide (And.intro hnn htot)
  have HB := hide hbw
  clear hn M ho hnn hout htot hbw k1
  refine callsIn_wide.1 (callsIn_of_wp_marks (n := 3) (F := Fence.wide) Try.func22 rfl trivial ?_)
  simp only [Try.ntmps22, List.size_toArray, List.length_cons, List.length_nil, Nat.reduceAdd, Nat.reduceSub, Array.replicate_succ, Array.replicate_zero, List.push_toArray, List.append_toArray, List.nil_append, List.cons_append]
  have V1 := hide (callsIn_wide (n := 2).2 (VM.out _ (Kp.alloc w (.cells #[.pointer (some ⟨b, 0, none⟩)] 24))))
  gi_wp2_with (first | (refine ⟨trivial, ?_⟩; gi_at_call 33; refine V1.out.mono ?_; rintro e w' ⟨rfl, rfl⟩) | (refine ⟨trivial, ?_⟩; gi_at_call 39; refine (parts_in Fence.wide _ trivial rfl _ _).mono ?_; rintro e w' ⟨rfl, rfl⟩))
  have K3 := hide (K1.out.allocK (.cells #[.int .i64 m] 3))
  have hs0 : (((w.alloc (.cells #[.pointer (some ⟨b, 0, none⟩)] 24)).alloc (.cells #[.int .i64 0] 2)).alloc (.cells #[.int .i64 m] 3)).cell? ⟨w.heap.size, 0, none⟩ = some (.pointer (some ⟨b, 0, none⟩)) := by simp [go_sem]
  have hs1 : (((w.alloc (.cells #[.pointer (some ⟨b, 0, none⟩)] 24)).alloc (.cells #[.int .i64 0] 2)).alloc (.cells #[.int .i64 m] 3)).cell? ⟨w.heap.size + 1, 0, none⟩ = some (.int .i64 0) := by simp [go_sem]
  have hf1 : (((w.alloc (.cells #[.pointer (some ⟨b, 0, none⟩)] 24)).alloc (.cells #[.int .i64 0] 2)).alloc (.cells #[.int .i64 m] 3)).frozen? ⟨w.heap.size + 1, 0, none⟩ = false := by simp [go_sem]
  have hs2 : (((w.alloc (.cells #[.pointer (some ⟨b, 0, none⟩)] 24)).alloc (.cells #[.int .i64 0] 2)).alloc (.cells #[.int .i64 m] 3)).cell? ⟨w.heap.size + 1 + 1, 0, none⟩ = some (.int .i64 m) := by simp [go_sem]
  have hf2 : (((w.alloc (.cells #[.pointer (some ⟨b, 0, none⟩)] 24)).alloc (.cells #[.int .i64 0] 2)).alloc (.cells #[.int .i64 m] 3)).frozen? ⟨w.heap.size + 1 + 1, 0, none⟩ = false := by simp [go_sem]
  have hsz : (((w.alloc (.cells #[.pointer (some ⟨b, 0, none⟩)] 24)).alloc (.cells #[.int .i64 0] 2)).alloc (.cells #[.int .i64 m] 3)).heap.size = w.heap.size + 3 := by simp
  have hmx : Try.prog.follows .mixedOrders = true := by kernel_rfl
  clear c0 c1 c2 hm
  generalize ((w.alloc (.cells #[.pointer (some ⟨b, 0, none⟩)] 24)).alloc (.cells #[.int .i64 0] 2)).alloc (.cells #[.int .i64 m] 3) = W3 at *
  refine wpIn_rangeFunc_box rfl (by decide) (gf := 42) (lb := #[.pointer (some ⟨w.heap.size + 1 + 1, 0, none⟩)]) rfl trivial (enters_of Try.func42 (by kernel_rfl) rfl)
    (encs := encB (n := n)) (bk := w.heap.size + 1 + 1) (by omega) (S := fun ys => ys = pl n (clipN k n) (clipN k n)) (N := n + 1)
    (fun l J W hJs hY hsame h0 => parts1_in (n0 := 0) Fence.wide 2 trivial rfl (by decide) l (w.heap.size + 1 + 1) n (clipN k n) HN.out HCL.out (SameAt (w.heap.size + 1 + 1)) (SameAt.refl _) (fun h k => h.trans k) (fun v hq hc => ⟨hq.1.trans hc, hq.2⟩) J (fun _ _ => False) hJs hY W HZ.out (hsame.1.trans hs2) (hsame.2.trans hf2) h0)
    (fun _ => rfl)
    (fun pre W => W.cell? ⟨w.heap.size + 1, 0, none⟩ = some (.int .i64 (IntKind.i64.wrap (lsum (tr C) pre))) ∧ W.frozen? ⟨w.heap.size + 1, 0, none⟩ = false ∧ W.cell? ⟨w.heap.size, 0, none⟩ = some (.pointer (some ⟨b, 0, none⟩)) ∧ Kp [] w W ∧ w.heap.size + 3 ≤ W.heap.size)
    ?set ?own ⟨hs1, hf1, hs0, K3.out, by omega⟩
    (fun x => { tmps := #[.pointer (some ⟨b, 0, none⟩), .int .i64 k, .pointer (some ⟨w.heap.size, 0, none⟩), undef, .int .i64 0, .pointer (some ⟨w.heap.size + 1, 0, none⟩), .int .i64 (x.1 : Int), .pointer (some ⟨b, 0, none⟩), .bool true, .bool false, .int .i64 k, .pointer (some ⟨b, 0, none⟩), .pointer (some ⟨b, 0, none⟩), .pointer (some ⟨b, 2, none⟩), .slice p n c, .int .i64 (n : Int), .int .i64 m, .func (.func 42) #[] #[.pointer (some ⟨w.heap.size + 1 + 1, 0, none⟩)], .int .i64 (x.1 : Int), undef, undef, undef, undef, undef, undef, undef, undef, undef, undef, undef], defers := [] }) ?assign ?body ?done
  case set =>
    rintro pre W v ⟨h1, h2, h3, h4, h5⟩
    exact ⟨by rw [cell_far (by simp)]; exact h1, by rw [World.frozen?_setCell]; exact h2, by rw [cell_far (by simp)]; exact h3, h4.put _ _ _ (.inr (by omega)), by simpa [World.setCell] using h5⟩
  case own =>
    rintro pre A A' row ⟨h1, h2, h3, h4, h5⟩ hg hr
    exact ⟨cell_kept h1 hg (fun r e => (hr r e).2), (frozen_kept h1 hg (fun r e => (hr r e).2)).trans h2, cell_kept h3 hg (fun r e => (hr r e).2), h4.grown hg (fun r e => by have := (hr r e).1; omega), Nat.le_trans h5 hg.size⟩
  case assign =>
    intro l x W K hK
    unfold encB
    gi_wp2
    exact hK
  case body =>
    rintro l pre x W ⟨h1, h2, h3, h4, h5⟩ hlen
    have hx := x.2
    obtain ⟨j, hj⟩ : ∃ j, x.1 = j + 1 := ⟨x.1 - 1, by omega⟩
    have MW := HM.out.keep h4 (by simp) (by simp)
    obtain ⟨c0, c1, c2⟩ : W.cell? ⟨b, 0, none⟩ = some (.bool true) ∧ W.cell? ⟨b, 1, none⟩ = some (.int .i64 (sumS C n)) ∧ W.cell? ⟨b, 2, none⟩ = some (.slice p n c) := by simp [cell_of_blk MW.blk]
    have hjn : j < n := by omega
    obtain ⟨g, rfl, e1, f1, _⟩ := row_cell MW.row hjn
    rw [rowV_get _ hjn, show trV (tr C) j = .int .i64 (tr C (j + 1)) from rfl] at e1
    have HLS := hide (lsum_snoc (tr C) pre x)
    rw [hj] at HLS
    obtain ⟨s, hs⟩ : ∃ s, s = lsum (tr C) pre := ⟨_, rfl⟩
    obtain ⟨t, ht⟩ : ∃ t, t = tr C (j + 1) := ⟨_, rfl⟩
    rw [← hs] at h1
    rw [← ht] at e1
    have HST := hide (show IntKind.i64.wrap (IntKind.i64.wrap s + t) = IntKind.i64.wrap (lsum (tr C) (pre ++ [x])) by rw [HLS.out, ← hs, ← ht, IntKind.wrap_i64, IntKind.wrap_i64, IntKind.wrap_i64]; omega)
    obtain ⟨u, hu⟩ : ∃ u, u = IntKind.i64.wrap s := ⟨_, rfl⟩
    rw [← hu] at h1 HST
    have wj : IntKind.i64.wrap (((j + 1 : Nat) : Int) - 1) = (j : Int) := by have := HN.out; rw [IntKind.wrap_i64]; omega
    obtain ⟨j1, hj1⟩ : ∃ j1, j1 = j + 1 := ⟨_, rfl⟩
    rw [← hj1] at wj
    obtain ⟨y, hy⟩ : ∃ y, IntKind.i64.wrap (u + t) = y := ⟨_, rfl⟩
    rw [hy] at HST
    have hxe : x.1 = j1 := by omega
    have bj : (j : Int) < (n : Int) := by omega
    rw [hxe]
    obtain ⟨wd, hwd⟩ : ∃ wd, wd = ({ W with drawn := W.drawn + 1 } : World) := ⟨_, rfl⟩
    have d1 : wd.cell? ⟨w.heap.size + 1, 0, none⟩ = some (.int .i64 u) := by rw [hwd]; exact h1
    have d2 : wd.frozen? ⟨w.heap.size + 1, 0, none⟩ = false := by rw [hwd]; exact h2
    have d3 : wd.cell? ⟨w.heap.size, 0, none⟩ = some (.pointer (some ⟨b, 0, none⟩)) := by rw [hwd]; exact h3
    have d4 : wd.cell? ⟨b, 2, none⟩ = some (.slice (some ⟨g, 0, none⟩) n c) := by rw [hwd]; exact c2
    have d5 : wd.cell? ⟨g, j, none⟩ = some (.int .i64 t) := by rw [hwd]; exact e1
    have K4 := hide (show Kp [] w wd by rw [hwd]; exact h4.trans0 (Kp.drewN [] W 1))
    have KO := hide (show KeepsOthers W wd by rw [hwd]; exact KeepsOthers.drew W)
    have SA := hide (show SameAt (w.heap.size + 1 + 1) W wd by rw [hwd]; exact ⟨rfl, rfl⟩)
    have SZ := hide (show w.heap.size + 3 ≤ wd.heap.size by rw [hwd]; exact h5)
    clear h1 h2 h3 h4 h5 MW c0 c1 c2 e1 f1 hs ht hu hj hj1 hx hxe hlen HLS
    gi_wp2
    refine wpIn_region_still_tail 10 hmx (by kernel_rfl) ?hno ?hnd ?_
    case hno => rintro ⟨a, w, h⟩; exact h
    case hnd =>
      intro i o ho c hc
      have hmem := Array.mem_of_getElem? ho
      simp at hmem
      rcases hmem with rfl | rfl | rfl | rfl | rfl | rfl | rfl | rfl | rfl | rfl | rfl <;> cases hc
    simp only [List.take_succ_cons, List.take_zero, List.drop_succ_cons, List.drop_zero]
    rw [← hwd]
    clear hwd
    repeat still_step
    refine wpStill_nil ?_
    go_wp2_with fail
    gi_wp2
    exact ⟨KO.out.trans (KeepsOthers.setCell _ _ _), SA.out.trans ⟨cell_far (by simp), World.frozen?_setCell _ _ _ _⟩, by rw [HST.out]; exact World.cell?_setCell_same' _ _ _ (by rw [d1]; rfl), by rw [World.frozen?_setCell]; exact d2, by rw [cell_far (by simp)]; exact d3, K4.out.put _ _ _ (.inr (by omega)), by have := SZ.out; simpa [World.setCell] using this⟩
  case done =>
    rintro D ys W hD rfl ⟨h1, h2, h3, h4, h5⟩ hK
    have hL := lsum_pl (n := n) C _ _ (Nat.le_refl (clipN k n)) HCL.out
    rw [hL, show IntKind.i64.wrap (sumS C (clipN k n)) = sumS C (clipN k n) by
      have a1 := sumS_mono HT.out.1 HCL.out
      have a2 := sumS_mono HT.out.1 (Nat.zero_le (clipN k n))
      have a3 : sumS C 0 = 0 := rfl
      have := HT.out.2
      rw [IntKind.wrap_i64]; omega] at h1
    clear hL
    gi_wp2
    refine ⟨by simp, .inl ⟨_, _, rfl, run_takeDeferred hK, ?_⟩⟩
    exact ⟨_, results_tmp rfl _ _ _, rfl, h4.grown (grownBy_putObj' W D (.deferred none)) (fun r e => by cases e; omega)⟩
end Go.Proofs.Ytgcnccfmfnifbaa
