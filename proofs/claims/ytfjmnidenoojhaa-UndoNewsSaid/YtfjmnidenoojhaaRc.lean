/- Undoing: the walk. -/
import Derived.Test.YtfjmnidenoojhaaDd
set_option linter.unusedVariables false
set_option linter.unusedSimpArgs false
namespace Go.Proofs.Ytfjmnidenoojhaa
open Go.RowKit Go.Shelf

attribute [local go_sem] Oper.semAt_some

structure Kn (n0 : Nat) (o : List Nat) (w w' : World) : Prop where
  os : w'.os = w.os
  tape : w'.tape = w.tape
  output : w'.output = w.output
  size : w.heap.size ≤ w'.heap.size
  block : ∀ i, i < n0 → i ∉ o → w'.heap[i]? = w.heap[i]?
theorem Kn.refl (n0 : Nat) (o : List Nat) (w : World) : Kn n0 o w w := ⟨rfl, rfl, rfl, Nat.le_refl _, fun _ _ _ => rfl⟩
theorem Kn.trans {n0 : Nat} {o : List Nat} {A B C : World} (h : Kn n0 o A B) (k : Kn n0 o B C) : Kn n0 o A C := ⟨k.os.trans h.os, k.tape.trans h.tape, k.output.trans h.output, Nat.le_trans h.size k.size, fun i hi ho => (k.block i hi ho).trans (h.block i hi ho)⟩
theorem Kn.of_grown {n0 : Nat} {o : List Nat} {A B : World} {row : Option Nat} (g : A.grownBy B row) (hn : n0 ≤ A.heap.size) (hr : ∀ r, row = some r → n0 ≤ r) : Kn n0 o A B := ⟨g.os, g.tape, g.output, g.size, fun i hi _ => g.block i (by omega) (fun e => by have := hr i e.symm; omega)⟩
theorem Kn.set {n0 : Nat} {o : List Nat} (w : World) (a : Addr) (v : Value) (h : a.block ∈ o) : Kn n0 o w (w.setCell a v) := ⟨rfl, rfl, rfl, by simp [World.setCell], fun k hk ho => Below.heap_setCell _ _ _ _ (fun e => ho (e ▸ h))⟩
theorem Kn.drew {n0 : Nat} {o : List Nat} (w : World) : Kn n0 o w w.drew := ⟨rfl, rfl, rfl, Nat.le_refl _, fun _ _ _ => rfl⟩
theorem row_kn {n0 : Nat} {w w' : World} {B e size n : Nat} {v : Value} {xs : List Value} (k : Kn n0 [] w w') (hv : w.ownsRow B e size v n xs) (hl : ∀ g, v.ownBlock = some g → g < n0) : w'.ownsRow B e size v n xs := by
  refine ⟨hv.1, ?_⟩
  rcases hv.2 with h1 | ⟨g, cap, cur, rfl, hb, hgg, rest⟩
  · exact .inl h1
  · exact .inr ⟨g, cap, cur, rfl, hb, (k.block g (hl g rfl) (by simp)).trans hgg, rest⟩
theorem RM.kn {B n0 : Nat} {w w' : World} {b gP gS cP cS n : Nat} {vG : Value} {P : Nat → Nat} {Z : Nat → Int} {G : List Nat} (M : RM B w b gP gS cP cS vG n P Z G) (k : Kn n0 [] w w') (hb : b < n0) (hP : gP < n0) (hS : gS < n0) (hG : ∀ g, vG.ownBlock = some g → g < n0) : RM B w' b gP gS cP cS vG n P Z G :=
  ⟨(k.block b hb (by simp)).trans M.blk, row_kn k M.rP (fun g hg => by simp [Value.ownBlock] at hg; omega), row_kn k M.rS (fun g hg => by simp [Value.ownBlock] at hg; omega), row_kn k M.rG hG, M.pl⟩
theorem row_cut {w : World} {B g n c m : Nat} {G : List Nat} (h : w.ownsRow B 3 1 (.slice (some ⟨g, 0, none⟩) n c) n (ints G)) (hm : m ≤ n) : w.ownsRow B 3 1 (.slice (some ⟨g, 0, none⟩) m c) m (ints (G.take m)) := by
  have hl := h.1
  rcases h.2 with h1 | ⟨g', cap, cur, he, hb, hh, h4, h5, h6, h7⟩
  · cases h1.1
  · injection he with e1 e2 e3
    injection e1 with e1
    injection e1 with e1
    subst e1
    subst e3
    refine ⟨?_, .inr ⟨g, c, cur, rfl, hb, hh, by omega, h5, h6, ?_⟩⟩
    · simp [ints] at hl ⊢; omega
    · have : ints (G.take m) = (ints G).take m := by simp [ints]
      rw [this, ← h7, List.take_take, Nat.mul_one, Nat.mul_one, Nat.min_eq_left hm]
/-- the rows when k of the last unions of the log are undone -/
def uR (G : List Nat) (m k : Nat) : Nat := G[m + (G.length - m - 1 - k)]?.getD 0
def uPZ (P : Nat → Nat) (Z : Nat → Int) (G : List Nat) (m : Nat) : Nat → (Nat → Nat) × (Nat → Int)
  | 0 => (P, Z)
  | k + 1 => (upd (uPZ P Z G m k).1 (uR G m k) (uR G m k), updZ (uPZ P Z G m k).2 ((uPZ P Z G m k).1 (uR G m k)) (wrap64 ((uPZ P Z G m k).2 ((uPZ P Z G m k).1 (uR G m k)) - (uPZ P Z G m k).2 (uR G m k))))
theorem fst_snoc {pre : List Nat} {x : Nat} (h : pre ++ [x] = fst (fun k => k) (pre ++ [x]).length) : pre = fst (fun k => k) pre.length ∧ x = pre.length := by
  rw [List.length_append, List.length_singleton, fst_succ] at h
  have := List.append_inj' h rfl
  simp at this
  exact this
/-- one undone union on the rows -/
def undoP (P : Nat → Nat) (r : Nat) : Nat → Nat := upd P r r
def undoZ (P : Nat → Nat) (Z : Nat → Int) (r : Nat) : Nat → Int := updZ Z (P r) (IntKind.i64.wrap (Z (P r) - Z r))
set_option maxRecDepth 100000 in
set_option maxHeartbeats 16000000 in
theorem roll_row {B : Nat} {w : World} {b gP gS gG cP cS cG n : Nat} {P : Nat → Nat} {Z : Nat → Int} {G : List Nat} (m : Nat) (hm : m ≤ G.length) (hn : n ≤ 65536) (hG : G.length ≤ 65536) (gl : ∀ x ∈ G, x < n)
    (M : RM B w b gP gS cP cS (.slice (some ⟨gG, 0, none⟩) G.length cG) n P Z G) (ap : Apart b (some gP) (some gS) (some gG)) (hB : B ≤ w.heap.size) (hcap : G.length ≤ cG) (hmc : m < cG) :
    BothC Try.prog 42 #[.pointer (some ⟨b, 0, none⟩), .int .i64 (m : Int)] w fun e w' => e = .returned (.tuple #[]) ∧ RM B w' b gP gS cP cS (.slice (some ⟨gG, 0, none⟩) m cG) n (uPZ P Z G m (G.length - m)).1 (uPZ P Z G m (G.length - m)).2 (G.take m) ∧ Kp [b, gP, gS] w w' := by
  have hp := upPtr
  obtain ⟨c0, c1, c2, c3⟩ : w.cell? ⟨b, 0, none⟩ = some (.bool true) ∧ w.cell? ⟨b, 1, none⟩ = some (.slice (some ⟨gP, 0, none⟩) n cP) ∧ w.cell? ⟨b, 2, none⟩ = some (.slice (some ⟨gS, 0, none⟩) n cS) ∧ w.cell? ⟨b, 3, none⟩ = some (.slice (some ⟨gG, 0, none⟩) G.length cG) := by simp [cell_of_blk M.blk]
  have hbw := lt_of_blk M.blk
  have cx : (w.alloc (.cells #[.pointer (some ⟨b, 0, none⟩)] 23)).cell? ⟨b, 3, none⟩ = some (.slice (some ⟨gG, 0, none⟩) G.length cG) := by
    have := ((Kp.alloc (o := []) w (.cells #[.pointer (some ⟨b, 0, none⟩)] 23)).blk M.blk (by simp))
    simp [cell_of_blk this]
  have hml : (m : Int) ≤ (G.length : Int) := by omega
  have hgb : cG - m ≠ 0 := by omega
  have hlP := (M.rP.lt gP rfl).2
  have hlS := (M.rS.lt gS rfl).2
  have hlG := (M.rG.lt gG rfl).2
  refine both_of_wp_marks 3 Try.func42 rfl ?_
  simp only [Try.ntmps42, List.size_toArray, List.length_cons, List.length_nil, Nat.reduceAdd, Nat.reduceSub, Array.replicate_succ, Array.replicate_zero, List.push_toArray, List.append_toArray, List.nil_append, List.cons_append]
  gi_wp2_with (refine ⟨trivial, ?_⟩; gi_at_call 47; refine (back_in Fence.wide _ trivial rfl _ _ _ _).mono ?_; rintro e w' ⟨rfl, rfl⟩)
  obtain ⟨W1, hW1⟩ : ∃ W1, W1 = (w.alloc (.cells #[.pointer (some ⟨b, 0, none⟩)] 23)).alloc (.cells #[.slice (some ⟨gG, m, none⟩) (G.length - m) (cG - m)] 49) := ⟨_, rfl⟩
  have sz : W1.heap.size = w.heap.size + 2 := by rw [hW1]; simp
  have b1 : W1.cell? ⟨w.heap.size, 0, none⟩ = some (.pointer (some ⟨b, 0, none⟩)) := by rw [hW1]; simp [go_sem]
  have b2 : W1.cell? ⟨w.heap.size + 1, 0, none⟩ = some (.slice (some ⟨gG, m, none⟩) (G.length - m) (cG - m)) := by rw [hW1]; simp [go_sem]
  have M1 : RM B W1 b gP gS cP cS (.slice (some ⟨gG, 0, none⟩) G.length cG) n P Z G := by rw [hW1]; exact (M.keep (Kp.alloc (o := []) _ _) (by simp)).keep (Kp.alloc (o := []) _ _) (by simp)
  have K1 : Hid (Kp [] w W1) := by rw [hW1]; exact (Kp.alloc (o := []) _ _).trans (Kp.alloc (o := []) _ _) (by simp)
  rw [← hW1]
  clear hW1 c0 c1 c2 c3 cx
  have hmx : Try.prog.follows .mixedOrders = true := by kernel_rfl
  refine wpIn_rangeFunc_ownF rfl (by decide) (gf := 48) (lb := #[.pointer (some ⟨w.heap.size + 1, 0, none⟩)]) rfl trivial (enters_of Try.func48 (by kernel_rfl) rfl)
    (encs := fun x : Nat => #[.int .i64 ((G.length - m - 1 - x : Nat) : Int), .int .i64 ((G[m + (G.length - m - 1 - x)]?.getD 0 : Nat) : Int)]) (Kp := Kn W1.heap.size [gP, gS])
    (back_stops (fun x : Nat => #[.int .i64 ((G.length - m - 1 - x : Nat) : Int), .int .i64 ((G[m + (G.length - m - 1 - x)]?.getD 0 : Nat) : Int)]) (fun k => k) Fence.wide 2 trivial rfl (by decide) (w.heap.size + 1) gG m (cG - m) (G.length - m) (fun j => G[m + j]?.getD 0) (by omega) (fun k hk => rfl) (Kn W1.heap.size [gP, gS]) (Kn.refl _ _) (fun h k => h.trans k) W1 ?box ?log) (fun h k => h.trans k) ?book (Below.refl _ _) (fun _ => rfl)
    (fun pre W => ∃ P' Z', RM B W b gP gS cP cS (.slice (some ⟨gG, 0, none⟩) G.length cG) n P' Z' G ∧ Kn W1.heap.size [gP, gS] W1 W ∧ W.cell? ⟨w.heap.size, 0, none⟩ = some (.pointer (some ⟨b, 0, none⟩)) ∧ (pre = fst (fun k => k) pre.length → P' = (uPZ P Z G m pre.length).1 ∧ Z' = (uPZ P Z G m pre.length).2))
    (fun _ _ _ => False) ?own (fun _ _ _ _ _ hs _ _ => hs) ⟨P, Z, M1, Kn.refl _ _ _, b1, fun _ => ⟨rfl, rfl⟩⟩
    (fun x => { tmps := #[.pointer (some ⟨b, 0, none⟩), .int .i64 (m : Int), .pointer (some ⟨w.heap.size, 0, none⟩), undef, undef, .int .i64 ((G[m + (G.length - m - 1 - x)]?.getD 0 : Nat) : Int), .pointer (some ⟨b, 0, none⟩), .pointer (some ⟨b, 0, none⟩), .pointer (some ⟨b, 3, none⟩), .slice (some ⟨gG, 0, none⟩) G.length cG, .int .i64 (m : Int), .slice (some ⟨gG, m, none⟩) (G.length - m) (cG - m), .func (.func 48) #[] #[.pointer (some ⟨w.heap.size + 1, 0, none⟩)], .int .i64 ((G.length - m - 1 - x : Nat) : Int), .int .i64 ((G[m + (G.length - m - 1 - x)]?.getD 0 : Nat) : Int), undef, undef, undef, undef, undef, undef, undef, undef, undef, undef, undef, undef, undef, undef, undef, undef, undef, undef, undef, undef, undef, undef, undef, undef, undef, undef, undef, undef, undef, undef, undef, undef, undef, undef, undef, undef, undef, undef], defers := [] }) ?assign ?body ?done ?stop
  case assign =>
    intro l x W K hK
    gi_wp2
    exact hK
  case body =>
    rintro l pre x W ⟨P', Z', MW, kW, hbx, hex⟩ hlen
    have HX := hide (show pre ++ [x] = fst (fun k => k) (pre ++ [x]).length → upd P' (uR G m x) (uR G m x) = (uPZ P Z G m (pre ++ [x]).length).1 ∧ updZ Z' (P' (uR G m x)) (wrap64 (Z' (P' (uR G m x)) - Z' (uR G m x))) = (uPZ P Z G m (pre ++ [x]).length).2 by
      intro h
      obtain ⟨h1, h2⟩ := fst_snoc h
      obtain ⟨h3, h4⟩ := hex h1
      rw [List.length_append, List.length_singleton, h2]
      subst h3
      subst h4
      exact ⟨rfl, rfl⟩)
    clear hex
    unfold uR at HX
    have hr : G[m + (G.length - m - 1 - x)]?.getD 0 < n := by
      have hj : m + (G.length - m - 1 - x) < G.length := by omega
      rw [List.getElem?_eq_getElem hj]
      exact gl _ (List.getElem_mem hj)
    generalize G[m + (G.length - m - 1 - x)]?.getD 0 = r at *
    have hq := MW.pl r hr
    obtain ⟨c0, c1, c2, c3⟩ : W.cell? ⟨b, 0, none⟩ = some (.bool true) ∧ W.cell? ⟨b, 1, none⟩ = some (.slice (some ⟨gP, 0, none⟩) n cP) ∧ W.cell? ⟨b, 2, none⟩ = some (.slice (some ⟨gS, 0, none⟩) n cS) ∧ W.cell? ⟨b, 3, none⟩ = some (.slice (some ⟨gG, 0, none⟩) G.length cG) := by simp [cell_of_blk MW.blk]
    obtain ⟨_, hpp, e1, f1, _⟩ := row_cell MW.rP hr
    injection hpp with hpp; injection hpp with hpp; subst hpp
    obtain ⟨_, hpp, z1, y1, _⟩ := row_cell MW.rS hq
    injection hpp with hpp; injection hpp with hpp; subst hpp
    obtain ⟨_, hpp, z2, y2, _⟩ := row_cell MW.rS hr
    injection hpp with hpp; injection hpp with hpp; subst hpp
    rw [intsF_get P' hr] at e1
    rw [intsZ_get Z' hq] at z1
    rw [intsZ_get Z' hr] at z2
    have n1 := Ne.symm (ap.ra gP rfl)
    have n2 := Ne.symm (ap.rb gS rfl)
    have n3 : gP ≠ gS := fun e => ap.ab gP rfl (by rw [e])
    have nx1 : w.heap.size ≠ gP := by omega
    have nx2 : w.heap.size ≠ gS := by omega
    have MW0 := hide MW
    have KW := hide kW
    clear MW kW c0 c3 gl M M1 b1 b2
    generalize hpr : P' r = q at *
    generalize Z' q = zq at *
    generalize Z' r = zr at *
    gi_wp2
    refine wpIn_region_still_tail 22 hmx (by kernel_rfl) ?hno ?hnd ?_
    case hno => rintro ⟨a, w, h⟩; exact h
    case hnd =>
      intro i o ho c hc
      have hmem := Array.mem_of_getElem? ho
      simp at hmem
      rcases hmem with rfl | rfl | rfl | rfl | rfl | rfl | rfl | rfl | rfl | rfl | rfl | rfl | rfl | rfl | rfl | rfl | rfl | rfl | rfl | rfl | rfl | rfl | rfl <;> cases hc
    simp only [List.take_succ_cons, List.take_zero, List.drop_succ_cons, List.drop_zero]
    obtain ⟨wd, hwd⟩ : ∃ wd, wd = ({ W with drawn := W.drawn + 1 } : World) := ⟨_, rfl⟩
    rw [← hwd]
    have kd : Kn W1.heap.size [gP, gS] W wd := by rw [hwd]; exact Kn.drew W
    have hbx' : wd.cell? ⟨w.heap.size, 0, none⟩ = some (.pointer (some ⟨b, 0, none⟩)) := by rw [hwd]; exact hbx
    have d1 : wd.cell? ⟨b, 1, none⟩ = some (.slice (some ⟨gP, 0, none⟩) n cP) := by rw [hwd]; exact c1
    have d2 : wd.cell? ⟨b, 2, none⟩ = some (.slice (some ⟨gS, 0, none⟩) n cS) := by rw [hwd]; exact c2
    have g1 : wd.cell? ⟨gP, r, none⟩ = some (.int .i64 (q : Int)) := by rw [hwd]; exact e1
    have g2 : wd.cell? ⟨gS, q, none⟩ = some (.int .i64 zq) := by rw [hwd]; exact z1
    have g3 : wd.cell? ⟨gS, r, none⟩ = some (.int .i64 zr) := by rw [hwd]; exact z2
    have h1 : wd.frozen? ⟨gP, r, none⟩ = false := by rw [hwd]; exact f1
    have h2 : wd.frozen? ⟨gS, q, none⟩ = false := by rw [hwd]; exact y1
    have h3 : wd.frozen? ⟨gS, r, none⟩ = false := by rw [hwd]; exact y2
    have MD := MW0.out.keep (o := []) (w' := wd) (by rw [hwd]; exact Kp.drewN [] W 1) (by simp)
    have MS := hide ((MD.setS ap q (wrap64 (zq - zr))).setP ap r r hr)
    have KS : Hid (Kn W1.heap.size [gP, gS] W ((wd.setCell ⟨gS, q, none⟩ (.int .i64 (wrap64 (zq - zr)))).setCell ⟨gP, r, none⟩ (.int .i64 (r : Int)))) := (kd.trans (Kn.set _ _ _ (by simp))).trans (Kn.set _ _ _ (by simp))
    have d1' : (wd.setCell ⟨gS, q, none⟩ (.int .i64 (wrap64 (zq - zr)))).cell? ⟨b, 1, none⟩ = some (.slice (some ⟨gP, 0, none⟩) n cP) := by rw [cell_far (by simp [n2])]; exact d1
    have hbx2 : (wd.setCell ⟨gS, q, none⟩ (.int .i64 (wrap64 (zq - zr)))).cell? ⟨w.heap.size, 0, none⟩ = some (.pointer (some ⟨b, 0, none⟩)) := by rw [cell_far (by simp [nx2])]; exact hbx'
    have g1' : (wd.setCell ⟨gS, q, none⟩ (.int .i64 (wrap64 (zq - zr)))).cell? ⟨gP, r, none⟩ = some (.int .i64 (q : Int)) := by rw [cell_far (by simp [n3])]; exact g1
    have KO : Hid (KeepsOthers W wd) := by rw [hwd]; exact KeepsOthers.drew W
    clear hwd kd MD hbx c1 c2 e1 z1 z2 f1 y1 y2
    repeat still_step
    refine wpStill_nil ?_
    go_wp2_with fail
    gi_wp2
    have hb4 : ((wd.setCell ⟨gS, q, none⟩ (.int .i64 (wrap64 (zq - zr)))).setCell ⟨gP, r, none⟩ (.int .i64 (r : Int))).cell? ⟨w.heap.size, 0, none⟩ = some (.pointer (some ⟨b, 0, none⟩)) := by rw [cell_far (by simp [nx1])]; exact hbx2
    exact ⟨(KO.out.trans (KeepsOthers.setCell _ _ _)).trans (KeepsOthers.setCell _ _ _), KS.out, _, _, MS.out, KW.out.trans KS.out, hb4, HX.out⟩
  case book =>
    intro W l o o' hl h _ _
    have hlt := (Array.getElem?_eq_some_iff.1 h).1
    have hsz : W1.heap.size ≤ W.heap.size := Nat.le_trans hl (Nat.le_of_lt hlt)
    exact Kn.of_grown (grownBy_putObj' W l o') hsz (fun r e => by cases e; exact hl)
  case own =>
    rintro pre A A' row ⟨P', Z', MA, kA, hb, hex⟩ hg hrow
    have hsz := kA.size
    have kg : Kn W1.heap.size [] A A' := Kn.of_grown hg hsz (fun r e => (hrow r e).1)
    have kg' : Kn W1.heap.size [gP, gS] A A' := Kn.of_grown hg hsz (fun r e => (hrow r e).1)
    refine ⟨P', Z', MA.kn kg (by omega) (by omega) (by omega) (fun g e => by simp [Value.ownBlock] at e; omega), kA.trans kg', ?_, hex⟩
    rw [← hb]
    exact World.cell?_of_block (kg.block w.heap.size (by omega) (by simp))
  case box =>
    intro W W' hW hk
    rw [← b2]
    exact World.cell?_of_block ((hk.block (w.heap.size + 1) (by omega) (by simp; omega)).trans (hW.block _ (by omega)))
  case log =>
    intro W W' hW hk j hj
    have hjl : m + j < G.length := by omega
    have e1 := M1.rG.cellAt (m + j) (by omega)
    have g1 : gG ≠ gP := fun e => ap.ac gP rfl (by rw [e])
    have g2 : gG ≠ gS := fun e => ap.bc gS rfl (by rw [e])
    have e2 : W'.cell? ⟨gG, m + j, none⟩ = W1.cell? ⟨gG, m + j, none⟩ := World.cell?_of_block ((hk.block gG (by omega) (by simp; omega)).trans (hW.block gG (by omega)))
    rw [e2, e1]
    simp [ints, hjl]
  case done =>
    rintro D xs W hD hxs ⟨P', Z', MW, kW, hb, hex⟩ hK
    obtain ⟨eP, eZ⟩ := hex (by rw [hxs, fst_len])
    rw [hxs, fst_len] at eP eZ
    clear hex hxs
    have c3 : W.cell? ⟨b, 3, none⟩ = some (.slice (some ⟨gG, 0, none⟩) G.length cG) := by simp [cell_of_blk MW.blk]
    have f3 : W.frozen? ⟨b, 3, none⟩ = false := free_of_blk MW.blk 3
    gi_wp2
    refine wpIn_wide.2 ?_
    refine wp_region_still_tail 9 hmx (by kernel_rfl) ?_
    simp only [List.take_succ_cons, List.take_zero, List.drop_succ_cons, List.drop_zero]
    obtain ⟨wd, hwd⟩ : ∃ wd, wd = ({ W with drawn := W.drawn + 1 } : World) := ⟨_, rfl⟩
    rw [← hwd]
    have kd : Kp [] W wd := by rw [hwd]; exact Kp.drewN [] W 1
    have MD := hide (MW.keep kd (by simp))
    have hb' : wd.cell? ⟨w.heap.size, 0, none⟩ = some (.pointer (some ⟨b, 0, none⟩)) := by rw [hwd]; exact hb
    have d3 : wd.cell? ⟨b, 3, none⟩ = some (.slice (some ⟨gG, 0, none⟩) G.length cG) := by rw [hwd]; exact c3
    have f3' : wd.frozen? ⟨b, 3, none⟩ = false := by rw [hwd]; exact f3
    have hK' : wd.heap[D]? = some (.deferred (some [])) := by rw [hwd]; exact hK
    have KD := hide kd
    have KW := hide kW
    have mle : (m : Int) ≤ (cG : Int) := by omega
    have mle' : m ≤ cG := by omega
    clear hwd kd kW MW c3 f3 hb hK
    repeat still_step
    refine wpStill_nil ?_
    go_wp2_with fail
    have hK2 : (wd.setCell ⟨b, 3, none⟩ (.slice (some ⟨gG, 0, none⟩) m cG)).heap[D]? = some (.deferred (some [])) := (KeepsOthers.setCell _ _ _).same D _ hK' rfl
    refine ⟨by simp, .inl ⟨_, _, rfl, run_takeDeferred hK2, ?_⟩⟩
    refine ⟨_, results_none rfl _ _ _, rfl, ?_, ?_⟩
    · have kn : Kn W1.heap.size [] (wd.setCell ⟨b, 3, none⟩ (.slice (some ⟨gG, 0, none⟩) m cG)) ((wd.setCell ⟨b, 3, none⟩ (.slice (some ⟨gG, 0, none⟩) m cG)).putObj D (.deferred none)) :=
        Kn.of_grown (grownBy_putObj' _ D _) (by have h1 := KW.out.size; have h2 := KD.out.size; simp; omega) (fun r e => by cases e; exact hD)
      have MF : RM B (wd.setCell ⟨b, 3, none⟩ (.slice (some ⟨gG, 0, none⟩) m cG)) b gP gS cP cS (.slice (some ⟨gG, 0, none⟩) m cG) n P' Z' (G.take m) := by
        have M := MD.out
        refine ⟨?_, row_side M.rP (far_own (Ne.symm (ap.ra gP rfl))) _ _, row_side M.rS (far_own (Ne.symm (ap.rb gS rfl))) _ _, ?_, M.pl⟩
        · rw [heap_setCell_same _ _ _ _ _ _ M.blk]; rfl
        · refine row_side ?_ (far_own (Ne.symm (ap.rc gG rfl))) _ _
          rw [show (G.take m).length = m by simp; omega]
          exact row_cut M.rG hm
      rw [← eP, ← eZ]
      exact MF.kn kn (by omega) (by omega) (by omega) (fun g e => by simp [Value.ownBlock] at e; omega)
    · have h0 := K1.out.size
      have h1 := KW.out.size
      have h2 := KD.out.size
      have hg := grownBy_putObj' (wd.setCell ⟨b, 3, none⟩ (.slice (some ⟨gG, 0, none⟩) m cG)) D (.deferred none)
      have ks : Kp [b, gP, gS] wd (wd.setCell ⟨b, 3, none⟩ (.slice (some ⟨gG, 0, none⟩) m cG)) := Kp.set _ _ _ (by simp)
      refine ⟨hg.os.trans (ks.os.trans (KD.out.os.trans (KW.out.os.trans K1.out.os))), hg.tape.trans (ks.tape.trans (KD.out.tape.trans (KW.out.tape.trans K1.out.tape))), hg.output.trans (ks.output.trans (KD.out.output.trans (KW.out.output.trans K1.out.output))), ?_, ?_⟩
      · have := hg.size; have := ks.size; omega
      · intro i hi ho
        have ho' : i ≠ b ∧ i ≠ gP ∧ i ≠ gS := by simpa using ho
        refine (hg.block i (by simp; omega) (by simp; omega)).trans ((ks.block i (by omega) ho).trans ((KD.out.block i (by omega) (by simp)).trans ((KW.out.block i (by omega) (by simp; omega)).trans (K1.out.block i hi (by simp)))))
  case stop =>
    rintro D c pre W _ _ h _
    exact h.elim
end Go.Proofs.Ytfjmnidenoojhaa
