/- Undoing no union: an empty rest of the log. -/
import Derived.Test.YtfjmnidenoojhaaRc
set_option linter.unusedVariables false
set_option linter.unusedSimpArgs false
namespace Go.Proofs.Ytfjmnidenoojhaa
open Go.RowKit Go.Shelf

attribute [local go_sem] Oper.semAt_some

set_option maxRecDepth 100000 in
set_option maxHeartbeats 4000000 in
/-- the function that slices.Backward makes, of an empty slice -/
theorem back0_in {α : Type} (F : Fence) (n : Nat) (h48 : F.fn 48) (hro : F.round = none) (l Bs : Nat) (pa : Option Addr) (cap : Nat) (sq : Nat → α) (J Jx : List α → World → Prop)
    (W : World) (hb0 : W.cell? ⟨Bs, 0, none⟩ = some (.slice pa 0 cap)) (h0 : J [] W) :
    CallsIn F n Try.prog 48 #[.func (.yield l) #[] #[], .pointer (some ⟨Bs, 0, none⟩)] W fun e W' => (∃ v, e = .returned v) ∧
      ((∃ ys, ys = fst sq 0 ∧ J ys W') ∨ (∃ pre, (∃ k, k ≤ 0 ∧ pre = fst sq k) ∧ Jx pre W')) := by
  have wl : IntKind.i64.wrap (-1) = -1 := by decide
  refine callsIn_of_wp Try.func48 rfl h48 ?_ hro
  simp only [Try.ntmps48, List.size_toArray, List.length_cons, List.length_nil, Nat.reduceAdd, Nat.reduceSub, Array.replicate_succ, Array.replicate_zero, List.push_toArray, List.append_toArray, List.nil_append, List.cons_append]
  gi_wp2
  gi_loopw [3] (fun i wr => i = .int .i64 (-1) ∧ J [] wr) (fun i _ => 0)
  case atStart => exact ⟨rfl, h0⟩
  case round =>
    obtain ⟨rfl, hJs⟩ := hrel
    gi_wp2
    go_end0
    exact ⟨⟨_, rfl⟩, .inl ⟨_, rfl, hJs⟩⟩
theorem back0_stops {α : Type} (encs : α → Array Value) (F : Fence) (n : Nat) (h48 : F.fn 48) (hro : F.round = none) (Bs : Nat) (pa : Option Addr) (cap : Nat) (sq : Nat → α) (Kq : World → World → Prop)
    (hKr : ∀ W, Kq W W) (w : World) (hBs : ∀ W, Below w.heap.size w W → W.cell? ⟨Bs, 0, none⟩ = some (.slice pa 0 cap)) :
    SeqStopsK F n Try.prog 48 #[.pointer (some ⟨Bs, 0, none⟩)] encs Kq (fun ys => ys = fst sq 0) (fun pre => ∃ k, k ≤ 0 ∧ pre = fst sq k) 0 w := fun l J Jx W hW _ _ hY h0 =>
  back0_in F n h48 hro l Bs pa cap sq J Jx W (hBs W hW) h0
theorem UM.kn {B n0 : Nat} {w w' : World} {b n : Nat} {vP vS vG : Value} {P Z : Nat → Nat} {G : List Nat} (M : UM B w b vP vS vG n P Z G) (k : Kn n0 [] w w') (hb : b < n0) (hP : ∀ g, vP.ownBlock = some g → g < n0) (hS : ∀ g, vS.ownBlock = some g → g < n0) (hG : ∀ g, vG.ownBlock = some g → g < n0) : UM B w' b vP vS vG n P Z G :=
  ⟨(k.block b hb (by simp)).trans M.blk, row_kn k M.P hP, row_kn k M.S hS, row_kn k M.G hG, M.ge, M.ap⟩
set_option maxRecDepth 100000 in
set_option maxHeartbeats 16000000 in
theorem roll_nil {B : Nat} {w : World} {b n : Nat} {vP vS : Value} {P Z : Nat → Nat} {G : List Nat} 
    (M : UM B w b vP vS (.slice none 0 0) n P Z G) :
    BothC Try.prog 42 #[.pointer (some ⟨b, 0, none⟩), .int .i64 (0 : Int)] w fun e w' => e = .returned (.tuple #[]) ∧ UM B w' b vP vS (.slice none 0 0) n P Z G ∧ Kp [b] w w' := by
  have hp := upPtr
  have hbw := lt_of_blk M.blk
  have cx : (w.alloc (.cells #[.pointer (some ⟨b, 0, none⟩)] 23)).cell? ⟨b, 3, none⟩ = some (.slice none 0 0) := by
    have := ((Kp.alloc (o := []) w (.cells #[.pointer (some ⟨b, 0, none⟩)] 23)).blk M.blk (by simp))
    simp [cell_of_blk this]
  have hlP := fun g (h : vP.ownBlock = some g) => (M.P.lt g h).2
  have hlS := fun g (h : vS.ownBlock = some g) => (M.S.lt g h).2
  have hlG := fun g (h : (.slice none 0 0 : Value).ownBlock = some g) => (M.G.lt g h).2
  refine both_of_wp_marks 3 Try.func42 rfl ?_
  simp only [Try.ntmps42, List.size_toArray, List.length_cons, List.length_nil, Nat.reduceAdd, Nat.reduceSub, Array.replicate_succ, Array.replicate_zero, List.push_toArray, List.append_toArray, List.nil_append, List.cons_append]
  have HLP := hide hlP
  have HLS := hide hlS
  have HLG := hide hlG
  clear hlP hlS hlG
  gi_wp2_with (refine ⟨trivial, ?_⟩; gi_at_call 47; refine (back_in Fence.wide _ trivial rfl _ _ _ _).mono ?_; rintro e w' ⟨rfl, rfl⟩)
  obtain ⟨W1, hW1⟩ : ∃ W1, W1 = (w.alloc (.cells #[.pointer (some ⟨b, 0, none⟩)] 23)).alloc (.cells #[.slice none 0 0] 49) := ⟨_, rfl⟩
  have sz : W1.heap.size = w.heap.size + 2 := by rw [hW1]; simp
  have b1 : W1.cell? ⟨w.heap.size, 0, none⟩ = some (.pointer (some ⟨b, 0, none⟩)) := by rw [hW1]; simp [go_sem]
  have b2 : W1.cell? ⟨w.heap.size + 1, 0, none⟩ = some (.slice none 0 0) := by rw [hW1]; simp [go_sem]
  have M1 : UM B W1 b vP vS (.slice none 0 0) n P Z G := by rw [hW1]; exact (M.keep (Kp.alloc (o := []) _ _) (by simp)).keep (Kp.alloc (o := []) _ _) (by simp)
  have K1 : Hid (Kp [] w W1) := by rw [hW1]; exact (Kp.alloc (o := []) _ _).trans (Kp.alloc (o := []) _ _) (by simp)
  rw [← hW1]
  clear hW1 cx
  have hmx : Try.prog.follows .mixedOrders = true := by kernel_rfl
  refine wpIn_rangeFunc_ownF rfl (by decide) (gf := 48) (lb := #[.pointer (some ⟨w.heap.size + 1, 0, none⟩)]) rfl trivial (enters_of Try.func48 (by kernel_rfl) rfl)
    (encs := fun x : Nat => #[.int .i64 0, .int .i64 0]) (Kp := Kn W1.heap.size [])
    (back0_stops (fun x : Nat => #[.int .i64 0, .int .i64 0]) Fence.wide 2 trivial rfl (w.heap.size + 1) none 0 (fun k => k) (Kn W1.heap.size []) (Kn.refl _ _) W1 ?box) (fun h k => h.trans k) ?book (Below.refl _ _) (fun _ => rfl)
    (fun pre W => UM B W b vP vS (.slice none 0 0) n P Z G ∧ Kn W1.heap.size [] W1 W ∧ W.cell? ⟨w.heap.size, 0, none⟩ = some (.pointer (some ⟨b, 0, none⟩)))
    (fun _ _ _ => False) ?own (fun _ _ _ _ _ hs _ _ => hs) ⟨M1, Kn.refl _ _ _, b1⟩
    (fun x => { tmps := #[.pointer (some ⟨b, 0, none⟩), .int .i64 (0 : Int), .pointer (some ⟨w.heap.size, 0, none⟩), undef, undef, .int .i64 0, .pointer (some ⟨b, 0, none⟩), .pointer (some ⟨b, 0, none⟩), .pointer (some ⟨b, 3, none⟩), .slice none 0 0, .int .i64 (0 : Int), .slice none 0 0, .func (.func 48) #[] #[.pointer (some ⟨w.heap.size + 1, 0, none⟩)], .int .i64 0, .int .i64 0, undef, undef, undef, undef, undef, undef, undef, undef, undef, undef, undef, undef, undef, undef, undef, undef, undef, undef, undef, undef, undef, undef, undef, undef, undef, undef, undef, undef, undef, undef, undef, undef, undef, undef, undef, undef, undef, undef], defers := [] }) ?assign ?body ?done ?stop
  case assign =>
    intro l x W K hK
    gi_wp2
    exact hK
  case body =>
    rintro l pre x W _ hlen
    exact absurd hlen (by simp)
  case book =>
    intro W l o o' hl h _ _
    have hlt := (Array.getElem?_eq_some_iff.1 h).1
    have hsz : W1.heap.size ≤ W.heap.size := Nat.le_trans hl (Nat.le_of_lt hlt)
    exact Kn.of_grown (grownBy_putObj' W l o') hsz (fun r e => by cases e; exact hl)
  case own =>
    rintro pre A A' row ⟨MA, kA, hb⟩ hg hrow
    have hsz := kA.size
    have kg : Kn W1.heap.size [] A A' := Kn.of_grown hg hsz (fun r e => (hrow r e).1)
    refine ⟨MA.kn kg (by omega) (fun g e => by have := HLP.out g e; omega) (fun g e => by have := HLS.out g e; omega) (fun g e => by have := HLG.out g e; omega), kA.trans kg, ?_⟩
    rw [← hb]
    exact World.cell?_of_block (kg.block w.heap.size (by omega) (by simp))
  case box =>
    intro W hW
    rw [← b2]
    exact World.cell?_of_block (hW.block (w.heap.size + 1) (by omega))
  case done =>
    rintro D xs W hD hxs ⟨MW, kW, hb⟩ hK
    have c3 : W.cell? ⟨b, 3, none⟩ = some (.slice none 0 0) := by simp [cell_of_blk MW.blk]
    have f3 : W.frozen? ⟨b, 3, none⟩ = false := free_of_blk MW.blk 3
    gi_wp2
    refine wpIn_wide.2 ?_
    refine wp_region_still_tail 9 hmx (by kernel_rfl) ?_
    simp only [List.take_succ_cons, List.take_zero, List.drop_succ_cons, List.drop_zero]
    obtain ⟨wd, hwd⟩ : ∃ wd, wd = ({ W with drawn := W.drawn + 1 } : World) := ⟨_, rfl⟩
    rw [← hwd]
    have kd : Kp [] W wd := by rw [hwd]; exact Kp.drewN [] W 1
    have MD := hide (MW.keep kd (by simp))
    have hb' : wd.cell? ⟨w.heap.size, 0, none⟩ = some (.pointer (some ⟨b, 0, none⟩)) := by rw [hwd]; exact hb
    have d3 : wd.cell? ⟨b, 3, none⟩ = some (.slice none 0 0) := by rw [hwd]; exact c3
    have f3' : wd.frozen? ⟨b, 3, none⟩ = false := by rw [hwd]; exact f3
    have hK' : wd.heap[D]? = some (.deferred (some [])) := by rw [hwd]; exact hK
    have KD := hide kd
    have KW := hide kW
    clear hwd kd kW MW c3 f3 hb hK M M1 b1 b2
    repeat still_step
    refine wpStill_nil ?_
    go_wp2_with fail
    have hK2 : (wd.setCell ⟨b, 3, none⟩ (.slice none 0 0)).heap[D]? = some (.deferred (some [])) := (KeepsOthers.setCell _ _ _).same D _ hK' rfl
    refine ⟨by simp, .inl ⟨_, _, rfl, run_takeDeferred hK2, ?_⟩⟩
    refine ⟨_, results_none rfl _ _ _, rfl, ?_, ?_⟩
    · have kn : Kn W1.heap.size [] (wd.setCell ⟨b, 3, none⟩ (.slice none 0 0)) ((wd.setCell ⟨b, 3, none⟩ (.slice none 0 0)).putObj D (.deferred none)) :=
        Kn.of_grown (grownBy_putObj' _ D _) (by have h1 := KW.out.size; have h2 := KD.out.size; simp; omega) (fun r e => by cases e; exact hD)
      have MF : UM B (wd.setCell ⟨b, 3, none⟩ (.slice none 0 0)) b vP vS (.slice none 0 0) n P Z G := by
        have M := MD.out
        refine ⟨?_, row_side M.P (fun k hk => M.ap.ra k hk) _ _, row_side M.S (fun k hk => M.ap.rb k hk) _ _, row_side M.G (fun k hk => M.ap.rc k hk) _ _, M.ge, M.ap⟩
        rw [heap_setCell_same _ _ _ _ _ _ M.blk]; rfl
      exact MF.kn kn (by omega) (fun g e => by have := HLP.out g e; omega) (fun g e => by have := HLS.out g e; omega) (fun g e => by have := HLG.out g e; omega)
    · have h0 := K1.out.size
      have h1 := KW.out.size
      have h2 := KD.out.size
      have hg := grownBy_putObj' (wd.setCell ⟨b, 3, none⟩ (.slice none 0 0)) D (.deferred none)
      have ks : Kp [b] wd (wd.setCell ⟨b, 3, none⟩ (.slice none 0 0)) := Kp.set _ _ _ (by simp)
      refine ⟨hg.os.trans (ks.os.trans (KD.out.os.trans (KW.out.os.trans K1.out.os))), hg.tape.trans (ks.tape.trans (KD.out.tape.trans (KW.out.tape.trans K1.out.tape))), hg.output.trans (ks.output.trans (KD.out.output.trans (KW.out.output.trans K1.out.output))), ?_, ?_⟩
      · have := hg.size; have := ks.size; omega
      · intro i hi ho
        refine (hg.block i (by simp; omega) (by simp; omega)).trans ((ks.block i (by omega) ho).trans ((KD.out.block i (by omega) (by simp)).trans ((KW.out.block i (by omega) (by simp)).trans (K1.out.block i hi (by simp)))))
  case stop =>
    rintro D c pre W _ _ h _
    exact h.elim
set_option maxRecDepth 100000 in
set_option maxHeartbeats 16000000 in
theorem roll_cap {B : Nat} {w : World} {b n : Nat} {vP vS : Value} {P Z : Nat → Nat} {G : List Nat} {gG : Nat} (m : Nat)
    (M : UM B w b vP vS (.slice (some ⟨gG, 0, none⟩) m m) n P Z G) :
    BothC Try.prog 42 #[.pointer (some ⟨b, 0, none⟩), .int .i64 (m : Int)] w fun e w' => e = .returned (.tuple #[]) ∧ UM B w' b vP vS (.slice (some ⟨gG, 0, none⟩) m m) n P Z G ∧ Kp [b] w w' := by
  have hp := upPtr
  have hbw := lt_of_blk M.blk
  have cx : (w.alloc (.cells #[.pointer (some ⟨b, 0, none⟩)] 23)).cell? ⟨b, 3, none⟩ = some (.slice (some ⟨gG, 0, none⟩) m m) := by
    have := ((Kp.alloc (o := []) w (.cells #[.pointer (some ⟨b, 0, none⟩)] 23)).blk M.blk (by simp))
    simp [cell_of_blk this]
  have hmm : (m : Int) ≤ (m : Int) := Int.le_refl _
  have hlP := fun g (h : vP.ownBlock = some g) => (M.P.lt g h).2
  have hlS := fun g (h : vS.ownBlock = some g) => (M.S.lt g h).2
  have hlG := fun g (h : (.slice (some ⟨gG, 0, none⟩) m m : Value).ownBlock = some g) => (M.G.lt g h).2
  refine both_of_wp_marks 3 Try.func42 rfl ?_
  simp only [Try.ntmps42, List.size_toArray, List.length_cons, List.length_nil, Nat.reduceAdd, Nat.reduceSub, Array.replicate_succ, Array.replicate_zero, List.push_toArray, List.append_toArray, List.nil_append, List.cons_append]
  have HLP := hide hlP
  have HLS := hide hlS
  have HLG := hide hlG
  clear hlP hlS hlG
  gi_wp2_with (refine ⟨trivial, ?_⟩; gi_at_call 47; refine (back_in Fence.wide _ trivial rfl _ _ _ _).mono ?_; rintro e w' ⟨rfl, rfl⟩)
  obtain ⟨W1, hW1⟩ : ∃ W1, W1 = (w.alloc (.cells #[.pointer (some ⟨b, 0, none⟩)] 23)).alloc (.cells #[.slice (some ⟨gG, 0, none⟩) 0 0] 49) := ⟨_, rfl⟩
  have sz : W1.heap.size = w.heap.size + 2 := by rw [hW1]; simp
  have b1 : W1.cell? ⟨w.heap.size, 0, none⟩ = some (.pointer (some ⟨b, 0, none⟩)) := by rw [hW1]; simp [go_sem]
  have b2 : W1.cell? ⟨w.heap.size + 1, 0, none⟩ = some (.slice (some ⟨gG, 0, none⟩) 0 0) := by rw [hW1]; simp [go_sem]
  have M1 : UM B W1 b vP vS (.slice (some ⟨gG, 0, none⟩) m m) n P Z G := by rw [hW1]; exact (M.keep (Kp.alloc (o := []) _ _) (by simp)).keep (Kp.alloc (o := []) _ _) (by simp)
  have K1 : Hid (Kp [] w W1) := by rw [hW1]; exact (Kp.alloc (o := []) _ _).trans (Kp.alloc (o := []) _ _) (by simp)
  rw [← hW1]
  clear hW1 cx
  have hmx : Try.prog.follows .mixedOrders = true := by kernel_rfl
  refine wpIn_rangeFunc_ownF rfl (by decide) (gf := 48) (lb := #[.pointer (some ⟨w.heap.size + 1, 0, none⟩)]) rfl trivial (enters_of Try.func48 (by kernel_rfl) rfl)
    (encs := fun x : Nat => #[.int .i64 0, .int .i64 0]) (Kp := Kn W1.heap.size [])
    (back0_stops (fun x : Nat => #[.int .i64 0, .int .i64 0]) Fence.wide 2 trivial rfl (w.heap.size + 1) (some ⟨gG, 0, none⟩) 0 (fun k => k) (Kn W1.heap.size []) (Kn.refl _ _) W1 ?box) (fun h k => h.trans k) ?book (Below.refl _ _) (fun _ => rfl)
    (fun pre W => UM B W b vP vS (.slice (some ⟨gG, 0, none⟩) m m) n P Z G ∧ Kn W1.heap.size [] W1 W ∧ W.cell? ⟨w.heap.size, 0, none⟩ = some (.pointer (some ⟨b, 0, none⟩)))
    (fun _ _ _ => False) ?own (fun _ _ _ _ _ hs _ _ => hs) ⟨M1, Kn.refl _ _ _, b1⟩
    (fun x => { tmps := #[.pointer (some ⟨b, 0, none⟩), .int .i64 (m : Int), .pointer (some ⟨w.heap.size, 0, none⟩), undef, undef, .int .i64 0, .pointer (some ⟨b, 0, none⟩), .pointer (some ⟨b, 0, none⟩), .pointer (some ⟨b, 3, none⟩), .slice (some ⟨gG, 0, none⟩) m m, .int .i64 (m : Int), .slice (some ⟨gG, 0, none⟩) 0 0, .func (.func 48) #[] #[.pointer (some ⟨w.heap.size + 1, 0, none⟩)], .int .i64 0, .int .i64 0, undef, undef, undef, undef, undef, undef, undef, undef, undef, undef, undef, undef, undef, undef, undef, undef, undef, undef, undef, undef, undef, undef, undef, undef, undef, undef, undef, undef, undef, undef, undef, undef, undef, undef, undef, undef, undef, undef], defers := [] }) ?assign ?body ?done ?stop
  case assign =>
    intro l x W K hK
    gi_wp2
    exact hK
  case body =>
    rintro l pre x W _ hlen
    exact absurd hlen (by simp)
  case book =>
    intro W l o o' hl h _ _
    have hlt := (Array.getElem?_eq_some_iff.1 h).1
    have hsz : W1.heap.size ≤ W.heap.size := Nat.le_trans hl (Nat.le_of_lt hlt)
    exact Kn.of_grown (grownBy_putObj' W l o') hsz (fun r e => by cases e; exact hl)
  case own =>
    rintro pre A A' row ⟨MA, kA, hb⟩ hg hrow
    have hsz := kA.size
    have kg : Kn W1.heap.size [] A A' := Kn.of_grown hg hsz (fun r e => (hrow r e).1)
    refine ⟨MA.kn kg (by omega) (fun g e => by have := HLP.out g e; omega) (fun g e => by have := HLS.out g e; omega) (fun g e => by have := HLG.out g e; omega), kA.trans kg, ?_⟩
    rw [← hb]
    exact World.cell?_of_block (kg.block w.heap.size (by omega) (by simp))
  case box =>
    intro W hW
    rw [← b2]
    exact World.cell?_of_block (hW.block (w.heap.size + 1) (by omega))
  case done =>
    rintro D xs W hD hxs ⟨MW, kW, hb⟩ hK
    have c3 : W.cell? ⟨b, 3, none⟩ = some (.slice (some ⟨gG, 0, none⟩) m m) := by simp [cell_of_blk MW.blk]
    have f3 : W.frozen? ⟨b, 3, none⟩ = false := free_of_blk MW.blk 3
    gi_wp2
    refine wpIn_wide.2 ?_
    refine wp_region_still_tail 9 hmx (by kernel_rfl) ?_
    simp only [List.take_succ_cons, List.take_zero, List.drop_succ_cons, List.drop_zero]
    obtain ⟨wd, hwd⟩ : ∃ wd, wd = ({ W with drawn := W.drawn + 1 } : World) := ⟨_, rfl⟩
    rw [← hwd]
    have kd : Kp [] W wd := by rw [hwd]; exact Kp.drewN [] W 1
    have MD := hide (MW.keep kd (by simp))
    have hb' : wd.cell? ⟨w.heap.size, 0, none⟩ = some (.pointer (some ⟨b, 0, none⟩)) := by rw [hwd]; exact hb
    have d3 : wd.cell? ⟨b, 3, none⟩ = some (.slice (some ⟨gG, 0, none⟩) m m) := by rw [hwd]; exact c3
    have f3' : wd.frozen? ⟨b, 3, none⟩ = false := by rw [hwd]; exact f3
    have hK' : wd.heap[D]? = some (.deferred (some [])) := by rw [hwd]; exact hK
    have KD := hide kd
    have KW := hide kW
    clear hwd kd kW MW c3 f3 hb hK M M1 b1 b2
    repeat still_step
    refine wpStill_nil ?_
    go_wp2_with fail
    have hK2 : (wd.setCell ⟨b, 3, none⟩ (.slice (some ⟨gG, 0, none⟩) m m)).heap[D]? = some (.deferred (some [])) := (KeepsOthers.setCell _ _ _).same D _ hK' rfl
    refine ⟨by simp, .inl ⟨_, _, rfl, run_takeDeferred hK2, ?_⟩⟩
    refine ⟨_, results_none rfl _ _ _, rfl, ?_, ?_⟩
    · have kn : Kn W1.heap.size [] (wd.setCell ⟨b, 3, none⟩ (.slice (some ⟨gG, 0, none⟩) m m)) ((wd.setCell ⟨b, 3, none⟩ (.slice (some ⟨gG, 0, none⟩) m m)).putObj D (.deferred none)) :=
        Kn.of_grown (grownBy_putObj' _ D _) (by have h1 := KW.out.size; have h2 := KD.out.size; simp; omega) (fun r e => by cases e; exact hD)
      have MF : UM B (wd.setCell ⟨b, 3, none⟩ (.slice (some ⟨gG, 0, none⟩) m m)) b vP vS (.slice (some ⟨gG, 0, none⟩) m m) n P Z G := by
        have M := MD.out
        refine ⟨?_, row_side M.P (fun k hk => M.ap.ra k hk) _ _, row_side M.S (fun k hk => M.ap.rb k hk) _ _, row_side M.G (fun k hk => M.ap.rc k hk) _ _, M.ge, M.ap⟩
        rw [heap_setCell_same _ _ _ _ _ _ M.blk]; rfl
      exact MF.kn kn (by omega) (fun g e => by have := HLP.out g e; omega) (fun g e => by have := HLS.out g e; omega) (fun g e => by have := HLG.out g e; omega)
    · have h0 := K1.out.size
      have h1 := KW.out.size
      have h2 := KD.out.size
      have hg := grownBy_putObj' (wd.setCell ⟨b, 3, none⟩ (.slice (some ⟨gG, 0, none⟩) m m)) D (.deferred none)
      have ks : Kp [b] wd (wd.setCell ⟨b, 3, none⟩ (.slice (some ⟨gG, 0, none⟩) m m)) := Kp.set _ _ _ (by simp)
      refine ⟨hg.os.trans (ks.os.trans (KD.out.os.trans (KW.out.os.trans K1.out.os))), hg.tape.trans (ks.tape.trans (KD.out.tape.trans (KW.out.tape.trans K1.out.tape))), hg.output.trans (ks.output.trans (KD.out.output.trans (KW.out.output.trans K1.out.output))), ?_, ?_⟩
      · have := hg.size; have := ks.size; omega
      · intro i hi ho
        refine (hg.block i (by simp; omega) (by simp; omega)).trans ((ks.block i (by omega) ho).trans ((KD.out.block i (by omega) (by simp)).trans ((KW.out.block i (by omega) (by simp)).trans (K1.out.block i hi (by simp)))))
  case stop =>
    rintro D c pre W _ _ h _
    exact h.elim
set_option maxRecDepth 100000 in
set_option maxHeartbeats 16000000 in
theorem roll_end {B : Nat} {w : World} {b n : Nat} {vP vS : Value} {P Z : Nat → Nat} {G : List Nat} {gG cG : Nat} (m : Nat) (hmc : m < cG)
    (M : UM B w b vP vS (.slice (some ⟨gG, 0, none⟩) m cG) n P Z G) :
    BothC Try.prog 42 #[.pointer (some ⟨b, 0, none⟩), .int .i64 (m : Int)] w fun e w' => e = .returned (.tuple #[]) ∧ UM B w' b vP vS (.slice (some ⟨gG, 0, none⟩) m cG) n P Z G ∧ Kp [b] w w' := by
  have hp := upPtr
  have hbw := lt_of_blk M.blk
  have cx : (w.alloc (.cells #[.pointer (some ⟨b, 0, none⟩)] 23)).cell? ⟨b, 3, none⟩ = some (.slice (some ⟨gG, 0, none⟩) m cG) := by
    have := ((Kp.alloc (o := []) w (.cells #[.pointer (some ⟨b, 0, none⟩)] 23)).blk M.blk (by simp))
    simp [cell_of_blk this]
  have hmm : (m : Int) ≤ (m : Int) := Int.le_refl _
  have hmc2 : (m : Int) ≤ (cG : Int) := by omega
  have hgb : cG - m ≠ 0 := by omega
  have hle : m ≤ cG := by omega
  have hlP := fun g (h : vP.ownBlock = some g) => (M.P.lt g h).2
  have hlS := fun g (h : vS.ownBlock = some g) => (M.S.lt g h).2
  have hlG := fun g (h : (.slice (some ⟨gG, 0, none⟩) m cG : Value).ownBlock = some g) => (M.G.lt g h).2
  refine both_of_wp_marks 3 Try.func42 rfl ?_
  simp only [Try.ntmps42, List.size_toArray, List.length_cons, List.length_nil, Nat.reduceAdd, Nat.reduceSub, Array.replicate_succ, Array.replicate_zero, List.push_toArray, List.append_toArray, List.nil_append, List.cons_append]
  have HLP := hide hlP
  have HLS := hide hlS
  have HLG := hide hlG
  clear hlP hlS hlG
  gi_wp2_with (refine ⟨trivial, ?_⟩; gi_at_call 47; refine (back_in Fence.wide _ trivial rfl _ _ _ _).mono ?_; rintro e w' ⟨rfl, rfl⟩)
  obtain ⟨W1, hW1⟩ : ∃ W1, W1 = (w.alloc (.cells #[.pointer (some ⟨b, 0, none⟩)] 23)).alloc (.cells #[.slice (some ⟨gG, m, none⟩) 0 (cG - m)] 49) := ⟨_, rfl⟩
  have sz : W1.heap.size = w.heap.size + 2 := by rw [hW1]; simp
  have b1 : W1.cell? ⟨w.heap.size, 0, none⟩ = some (.pointer (some ⟨b, 0, none⟩)) := by rw [hW1]; simp [go_sem]
  have b2 : W1.cell? ⟨w.heap.size + 1, 0, none⟩ = some (.slice (some ⟨gG, m, none⟩) 0 (cG - m)) := by rw [hW1]; simp [go_sem]
  have M1 : UM B W1 b vP vS (.slice (some ⟨gG, 0, none⟩) m cG) n P Z G := by rw [hW1]; exact (M.keep (Kp.alloc (o := []) _ _) (by simp)).keep (Kp.alloc (o := []) _ _) (by simp)
  have K1 : Hid (Kp [] w W1) := by rw [hW1]; exact (Kp.alloc (o := []) _ _).trans (Kp.alloc (o := []) _ _) (by simp)
  rw [← hW1]
  clear hW1 cx
  have hmx : Try.prog.follows .mixedOrders = true := by kernel_rfl
  refine wpIn_rangeFunc_ownF rfl (by decide) (gf := 48) (lb := #[.pointer (some ⟨w.heap.size + 1, 0, none⟩)]) rfl trivial (enters_of Try.func48 (by kernel_rfl) rfl)
    (encs := fun x : Nat => #[.int .i64 0, .int .i64 0]) (Kp := Kn W1.heap.size [])
    (back0_stops (fun x : Nat => #[.int .i64 0, .int .i64 0]) Fence.wide 2 trivial rfl (w.heap.size + 1) (some ⟨gG, m, none⟩) (cG - m) (fun k => k) (Kn W1.heap.size []) (Kn.refl _ _) W1 ?box) (fun h k => h.trans k) ?book (Below.refl _ _) (fun _ => rfl)
    (fun pre W => UM B W b vP vS (.slice (some ⟨gG, 0, none⟩) m cG) n P Z G ∧ Kn W1.heap.size [] W1 W ∧ W.cell? ⟨w.heap.size, 0, none⟩ = some (.pointer (some ⟨b, 0, none⟩)))
    (fun _ _ _ => False) ?own (fun _ _ _ _ _ hs _ _ => hs) ⟨M1, Kn.refl _ _ _, b1⟩
    (fun x => { tmps := #[.pointer (some ⟨b, 0, none⟩), .int .i64 (m : Int), .pointer (some ⟨w.heap.size, 0, none⟩), undef, undef, .int .i64 0, .pointer (some ⟨b, 0, none⟩), .pointer (some ⟨b, 0, none⟩), .pointer (some ⟨b, 3, none⟩), .slice (some ⟨gG, 0, none⟩) m cG, .int .i64 (m : Int), .slice (some ⟨gG, m, none⟩) 0 (cG - m), .func (.func 48) #[] #[.pointer (some ⟨w.heap.size + 1, 0, none⟩)], .int .i64 0, .int .i64 0, undef, undef, undef, undef, undef, undef, undef, undef, undef, undef, undef, undef, undef, undef, undef, undef, undef, undef, undef, undef, undef, undef, undef, undef, undef, undef, undef, undef, undef, undef, undef, undef, undef, undef, undef, undef, undef, undef], defers := [] }) ?assign ?body ?done ?stop
  case assign =>
    intro l x W K hK
    gi_wp2
    exact hK
  case body =>
    rintro l pre x W _ hlen
    exact absurd hlen (by simp)
  case book =>
    intro W l o o' hl h _ _
    have hlt := (Array.getElem?_eq_some_iff.1 h).1
    have hsz : W1.heap.size ≤ W.heap.size := Nat.le_trans hl (Nat.le_of_lt hlt)
    exact Kn.of_grown (grownBy_putObj' W l o') hsz (fun r e => by cases e; exact hl)
  case own =>
    rintro pre A A' row ⟨MA, kA, hb⟩ hg hrow
    have hsz := kA.size
    have kg : Kn W1.heap.size [] A A' := Kn.of_grown hg hsz (fun r e => (hrow r e).1)
    refine ⟨MA.kn kg (by omega) (fun g e => by have := HLP.out g e; omega) (fun g e => by have := HLS.out g e; omega) (fun g e => by have := HLG.out g e; omega), kA.trans kg, ?_⟩
    rw [← hb]
    exact World.cell?_of_block (kg.block w.heap.size (by omega) (by simp))
  case box =>
    intro W hW
    rw [← b2]
    exact World.cell?_of_block (hW.block (w.heap.size + 1) (by omega))
  case done =>
    rintro D xs W hD hxs ⟨MW, kW, hb⟩ hK
    have c3 : W.cell? ⟨b, 3, none⟩ = some (.slice (some ⟨gG, 0, none⟩) m cG) := by simp [cell_of_blk MW.blk]
    have f3 : W.frozen? ⟨b, 3, none⟩ = false := free_of_blk MW.blk 3
    gi_wp2
    refine wpIn_wide.2 ?_
    refine wp_region_still_tail 9 hmx (by kernel_rfl) ?_
    simp only [List.take_succ_cons, List.take_zero, List.drop_succ_cons, List.drop_zero]
    obtain ⟨wd, hwd⟩ : ∃ wd, wd = ({ W with drawn := W.drawn + 1 } : World) := ⟨_, rfl⟩
    rw [← hwd]
    have kd : Kp [] W wd := by rw [hwd]; exact Kp.drewN [] W 1
    have MD := hide (MW.keep kd (by simp))
    have hb' : wd.cell? ⟨w.heap.size, 0, none⟩ = some (.pointer (some ⟨b, 0, none⟩)) := by rw [hwd]; exact hb
    have d3 : wd.cell? ⟨b, 3, none⟩ = some (.slice (some ⟨gG, 0, none⟩) m cG) := by rw [hwd]; exact c3
    have f3' : wd.frozen? ⟨b, 3, none⟩ = false := by rw [hwd]; exact f3
    have hK' : wd.heap[D]? = some (.deferred (some [])) := by rw [hwd]; exact hK
    have KD := hide kd
    have KW := hide kW
    clear hwd kd kW MW c3 f3 hb hK M M1 b1 b2
    repeat still_step
    refine wpStill_nil ?_
    go_wp2_with fail
    have hK2 : (wd.setCell ⟨b, 3, none⟩ (.slice (some ⟨gG, 0, none⟩) m cG)).heap[D]? = some (.deferred (some [])) := (KeepsOthers.setCell _ _ _).same D _ hK' rfl
    refine ⟨by simp, .inl ⟨_, _, rfl, run_takeDeferred hK2, ?_⟩⟩
    refine ⟨_, results_none rfl _ _ _, rfl, ?_, ?_⟩
    · have kn : Kn W1.heap.size [] (wd.setCell ⟨b, 3, none⟩ (.slice (some ⟨gG, 0, none⟩) m cG)) ((wd.setCell ⟨b, 3, none⟩ (.slice (some ⟨gG, 0, none⟩) m cG)).putObj D (.deferred none)) :=
        Kn.of_grown (grownBy_putObj' _ D _) (by have h1 := KW.out.size; have h2 := KD.out.size; simp; omega) (fun r e => by cases e; exact hD)
      have MF : UM B (wd.setCell ⟨b, 3, none⟩ (.slice (some ⟨gG, 0, none⟩) m cG)) b vP vS (.slice (some ⟨gG, 0, none⟩) m cG) n P Z G := by
        have M := MD.out
        refine ⟨?_, row_side M.P (fun k hk => M.ap.ra k hk) _ _, row_side M.S (fun k hk => M.ap.rb k hk) _ _, row_side M.G (fun k hk => M.ap.rc k hk) _ _, M.ge, M.ap⟩
        rw [heap_setCell_same _ _ _ _ _ _ M.blk]; rfl
      exact MF.kn kn (by omega) (fun g e => by have := HLP.out g e; omega) (fun g e => by have := HLS.out g e; omega) (fun g e => by have := HLG.out g e; omega)
    · have h0 := K1.out.size
      have h1 := KW.out.size
      have h2 := KD.out.size
      have hg := grownBy_putObj' (wd.setCell ⟨b, 3, none⟩ (.slice (some ⟨gG, 0, none⟩) m cG)) D (.deferred none)
      have ks : Kp [b] wd (wd.setCell ⟨b, 3, none⟩ (.slice (some ⟨gG, 0, none⟩) m cG)) := Kp.set _ _ _ (by simp)
      refine ⟨hg.os.trans (ks.os.trans (KD.out.os.trans (KW.out.os.trans K1.out.os))), hg.tape.trans (ks.tape.trans (KD.out.tape.trans (KW.out.tape.trans K1.out.tape))), hg.output.trans (ks.output.trans (KD.out.output.trans (KW.out.output.trans K1.out.output))), ?_, ?_⟩
      · have := hg.size; have := ks.size; omega
      · intro i hi ho
        refine (hg.block i (by simp; omega) (by simp; omega)).trans ((ks.block i (by omega) ho).trans ((KD.out.block i (by omega) (by simp)).trans ((KW.out.block i (by omega) (by simp)).trans (K1.out.block i hi (by simp)))))
  case stop =>
    rintro D c pre W _ _ h _
    exact h.elim
end Go.Proofs.Ytfjmnidenoojhaa
