/- Groups. -/
import Derived.Test.YtgnifimibonbjaaK
import Derived.Lib.JoinLaws
set_option linter.unusedVariables false
set_option linter.unusedSimpArgs false
namespace Go.Proofs.Ytgnifimibonbjaa
open Go.RowKit

theorem info42 : (Try.prog.info? 42).map (fun i => (i.zero, i.size, i.bytes)) = some (some (.slice none 0 0), 1, 24) := by kernel_rfl
theorem made_room (w : World) {B : Nat} (hB : B ≤ w.heap.size) (n : Nat) (h1 : n ≤ 65536) : (w.alloc (.cells (madeCells #[.slice none 0 0] n) 42)).ownsRow B 42 1 (.slice (some ⟨w.heap.size, 0, none⟩) 0 n) 0 [] := by
  refine ⟨rfl, .inr ⟨w.heap.size, n, madeCells #[.slice none 0 0] n, rfl, hB, heap_alloc_new _ _, Nat.zero_le _, by unfold maxLen; omega, by simp [size_madeCells], by simp⟩⟩
theorem gvs_more' {gl : Nat} {L : Nat → Nat} {n i r : Nat} (hi : L i = r) (hr : L r = r) : ∀ m, r < m → (gvs gl L n i m).set (roots L r) (gv gl L n (i + 1) r) = gvs gl L n (i + 1) m := by
  have other : ∀ x, x ≠ r → gv gl L n i x = gv gl L n (i + 1) x := by
    intro x hx
    unfold gv
    simp only [cnt]
    rw [if_neg (by omega), Nat.add_zero]
  have before : ∀ m, m ≤ r → gvs gl L n i m = gvs gl L n (i + 1) m := by
    intro m hm
    induction m with
    | zero => rfl
    | succ m ih => simp only [gvs, ih (by omega), other m (by omega)]
  intro m hm
  induction m with
  | zero => omega
  | succ m ih =>
    simp only [gvs]
    by_cases e : r = m
    · subst e
      rw [if_pos hr, if_pos hr, List.set_append_right _ _ (by rw [gvs_len]; omega), gvs_len, before r (Nat.le_refl _)]
      simp
    · rw [List.set_append_left _ _ (by rw [gvs_len]; exact roots_lt hr (by omega)), ih (by omega), other m (Ne.symm e)]
/-- the groups within Groups: k elements met, the roots below m have groups -/
structure GI (B : Nat) (w0 wr : World) (b n : Nat) (vP vS : Value) (own : List Nat) (L Z : Nat → Nat) (gl gg gn k m : Nat) : Prop where
  M : ∃ P, DM B wr b vP vS n (roots L n) P Z ∧ Good n P L
  R : ∃ F, wr.ownsRow w0.heap.size 3 1 (.slice (some ⟨gl, 0, none⟩) n n) n (intsF n F) ∧ Fill L n k F
  G : wr.ownsRow w0.heap.size 42 1 (.slice (some ⟨gg, 0, none⟩) (roots L m) (roots L n)) (roots L m) (gvs gl L n k m)
  N : ∃ N, wr.ownsRow w0.heap.size 3 1 (.slice (some ⟨gn, 0, none⟩) n n) n (intsF n N) ∧ ∀ r, r < m → L r = r → N r = roots L r
  K : Kp own w0 wr
theorem GI.keep {B : Nat} {w0 wr w' : World} {b n : Nat} {vP vS : Value} {own : List Nat} {L Z : Nat → Nat} {gl gg gn k m : Nat} (h : GI B w0 wr b n vP vS own L Z gl gg gn k m) (kp : Kp [] wr w') : GI B w0 w' b n vP vS own L Z gl gg gn k m := by
  obtain ⟨⟨P, M, g⟩, ⟨F, R, f⟩, G, ⟨N, NR, nn⟩, K⟩ := h
  exact ⟨⟨P, M.keep kp (by simp), g⟩, ⟨F, kp.row R (by simp), f⟩, kp.row G (by simp), ⟨N, kp.row NR (by simp), nn⟩, K.trans kp (by simp)⟩
theorem GI.skip {B : Nat} {w0 wr : World} {b n : Nat} {vP vS : Value} {own : List Nat} {L Z : Nat → Nat} {gl gg gn k : Nat} (h : GI B w0 wr b n vP vS own L Z gl gg gn k k) (hk : L k ≠ k) : GI B w0 wr b n vP vS own L Z gl gg gn k (k + 1) := by
  obtain ⟨M, R, G, ⟨N, NR, nn⟩, K⟩ := h
  refine ⟨M, R, ?_, ⟨N, NR, fun r hr he => ?_⟩, K⟩
  · simp only [roots, gvs, if_neg hk, Nat.add_zero, List.append_nil]; exact G
  · by_cases e : r = k
    · subst e; exact absurd he hk
    · exact nn r (by omega) he
theorem GI.start {B : Nat} {w : World} {b n : Nat} {vP vS : Value} {own : List Nat} {L P Z : Nat → Nat} (M : DM B w b vP vS n (roots L n) P Z) (g : Good n P L) (hn : n ≤ 65536) (hr : roots L n ≤ n) :
    GI B w (((w.alloc (.cells (madeCells #[.int .i64 0] n) 3)).alloc (.cells (madeCells #[.slice none 0 0] (roots L n)) 42)).alloc (.cells (madeCells #[.int .i64 0] n) 3)) b n vP vS own L Z w.heap.size (w.heap.size + 1) (w.heap.size + 1 + 1) 0 0 := by
  have k1 := Kp.alloc (o := []) w (.cells (madeCells #[.int .i64 0] n) 3)
  have k2 := Kp.alloc (o := []) (w.alloc (.cells (madeCells #[.int .i64 0] n) 3)) (.cells (madeCells #[.slice none 0 0] (roots L n)) 42)
  have k3 := Kp.alloc (o := []) ((w.alloc (.cells (madeCells #[.int .i64 0] n) 3)).alloc (.cells (madeCells #[.slice none 0 0] (roots L n)) 42)) (.cells (madeCells #[.int .i64 0] n) 3)
  have kk := (k1.trans k2 (by simp)).trans k3 (by simp)
  have r1 := made_row w (Nat.le_refl _) n hn
  have r2 := made_room (w.alloc (.cells (madeCells #[.int .i64 0] n) 3)) (B := w.heap.size) (by simp) (roots L n) (by omega)
  have r3 := made_row ((w.alloc (.cells (madeCells #[.int .i64 0] n) 3)).alloc (.cells (madeCells #[.slice none 0 0] (roots L n)) 42)) (B := w.heap.size) (by simp; omega) n hn
  have s1 : (w.alloc (.cells (madeCells #[.int .i64 0] n) 3)).heap.size = w.heap.size + 1 := by simp
  have s2 : ((w.alloc (.cells (madeCells #[.int .i64 0] n) 3)).alloc (.cells (madeCells #[.slice none 0 0] (roots L n)) 42)).heap.size = w.heap.size + 1 + 1 := by simp
  rw [s1] at r2
  rw [s2] at r3
  refine ⟨⟨P, M.keep kk (by simp), g⟩, ⟨_, k3.row (k2.row r1 (by simp)) (by simp), fun j hj => by omega⟩, k3.row r2 (by simp), ⟨_, r3, fun r hr => by omega⟩, kk.mono (by simp)⟩
theorem GI.put {B : Nat} {w0 w2 : World} {b n : Nat} {vP vS : Value} {own : List Nat} {L Z : Nat → Nat} {gl gg gn k : Nat} (h : GI B w0 w2 b n vP vS own L Z gl gg gn k (k + 1)) (hkn : k < n) (idem : ∀ i, i < n → L (L i) = L i) (ll : ∀ i, i < n → L i ≤ i)
    (hown : own = b :: (vP.ownBlock.toList ++ vS.ownBlock.toList)) (hB : gl ≠ gg ∧ gl ≠ gn ∧ gg ≠ gn ∧ (∀ x ∈ own, x < gl) ∧ w0.heap.size = gl ∧ gl < gg ∧ gl < gn) (x : Obj) :
    GI B w0 (((w2.alloc x).setCell ⟨gl, st L n (L k) + cnt L (L k) k, none⟩ (.int .i64 (k : Int))).setCell ⟨gg, roots L (L k), none⟩ (.slice (some ⟨gl, st L n (L k), none⟩) (cnt L (L k) k + 1) (cnt L (L k) n))) b n vP vS own L Z gl gg gn (k + 1) (k + 1) := by
  obtain ⟨⟨P, M, g⟩, ⟨F, R, f⟩, G, ⟨N, NR, nn⟩, K⟩ := h
  obtain ⟨b1, b2, b3, b4, b5, b6, b7⟩ := hB
  have ka := Kp.alloc (o := []) w2 x
  have k1 := Kp.set (o := [gl]) (w2.alloc x) ⟨gl, st L n (L k) + cnt L (L k) k, none⟩ (.int .i64 (k : Int)) (by simp)
  have k2 := Kp.set (o := [gg]) ((w2.alloc x).setCell ⟨gl, st L n (L k) + cnt L (L k) k, none⟩ (.int .i64 (k : Int))) ⟨gg, roots L (L k), none⟩ (.slice (some ⟨gl, st L n (L k), none⟩) (cnt L (L k) k + 1) (cnt L (L k) n)) (by simp)
  have nl : ∀ y ∈ b :: (vP.ownBlock.toList ++ vS.ownBlock.toList), y < gl := fun y hy => b4 y (by rw [hown]; exact hy)
  refine ⟨⟨P, ((M.keep ka (by simp)).keep k1 (fun y hy ho => by have := nl y hy; simp at ho; omega)).keep k2 (fun y hy ho => by have := nl y hy; simp at ho; omega), g⟩, ⟨_, ?_, f.next idem hkn⟩, ?_, ⟨N, ?_, nn⟩, ?_⟩
  · have r1 := row_put (ka.row R (by simp)) (st L n (L k) + cnt L (L k) k) (.int .i64 (k : Int))
    rw [intsF_set] at r1
    exact row_side r1 (fun y hy => by simp [Value.ownBlock] at hy; omega) _ _
  · have r1 := row_side (ka.row G (by simp)) (b := gl) (fun y hy => by simp [Value.ownBlock] at hy; omega) (st L n (L k) + cnt L (L k) k) (.int .i64 (k : Int))
    have r2 := row_put r1 (roots L (L k)) (.slice (some ⟨gl, st L n (L k), none⟩) (cnt L (L k) k + 1) (cnt L (L k) n))
    have e := gvs_more' (gl := gl) (n := n) (i := k) (r := L k) rfl (idem k hkn) (k + 1) (by have := ll k hkn; omega)
    rw [← e]
    have e2 : gv gl L n (k + 1) (L k) = .slice (some ⟨gl, st L n (L k), none⟩) (cnt L (L k) k + 1) (cnt L (L k) n) := by simp [gv, cnt]
    rw [e2]
    exact r2
  · exact row_side (row_side (ka.row NR (by simp)) (fun y hy => by simp [Value.ownBlock] at hy; omega) _ _) (fun y hy => by simp [Value.ownBlock] at hy; omega) _ _
  · exact ((K.trans ka (by simp)).trans k1 (fun y hy => by simp at hy; right; omega)).trans k2 (fun y hy => by simp at hy; right; omega)
/-- a new group -/
theorem GI.new {B : Nat} {w0 w1 w2 : World} {b n : Nat} {vP vS : Value} {own : List Nat} {L Z : Nat → Nat} {gl gg gn k : Nat} (h : GI B w0 w1 b n vP vS own L Z gl gg gn k k) (hr : L k = k)
    (hown : own = b :: (vP.ownBlock.toList ++ vS.ownBlock.toList)) (hB : gl ≠ gg ∧ gl ≠ gn ∧ gg ≠ gn ∧ (∀ x ∈ own, x < gl) ∧ w0.heap.size = gl ∧ gl < gg ∧ gl < gn) (x : Obj)
    (r2 : w2.ownsRow w0.heap.size 42 1 (.slice (some ⟨gg, 0, none⟩) (roots L k + 1) (roots L n)) (roots L k + 1) (gvs gl L n k k ++ [gv gl L n k k])) (g2 : ((w1.setCell ⟨gn, k, none⟩ (.int .i64 ((roots L k : Nat) : Int))).alloc x).grownBy w2 (some gg)) :
    GI B w0 w2 b n vP vS own L Z gl gg gn k (k + 1) := by
  obtain ⟨⟨P, M, g⟩, ⟨F, R, f⟩, G, ⟨N, NR, nn⟩, K⟩ := h
  obtain ⟨b1, b2, b3, b4, b5, b6, b7⟩ := hB
  have k1 := Kp.set (o := [gn]) w1 ⟨gn, k, none⟩ (.int .i64 ((roots L k : Nat) : Int)) (by simp)
  have k2 := Kp.alloc (o := []) (w1.setCell ⟨gn, k, none⟩ (.int .i64 ((roots L k : Nat) : Int))) x
  have k3 : Kp [gg] ((w1.setCell ⟨gn, k, none⟩ (.int .i64 ((roots L k : Nat) : Int))).alloc x) w2 := ⟨g2.os, g2.tape, g2.output, g2.size, fun i hi ho => g2.block i hi (by simp at ho; simpa using ho)⟩
  have nl : ∀ y ∈ b :: (vP.ownBlock.toList ++ vS.ownBlock.toList), y < gl := fun y hy => b4 y (by rw [hown]; exact hy)
  refine ⟨⟨P, ((M.keep k1 (fun y hy ho => by have := nl y hy; simp at ho; omega)).keep k2 (by simp)).keep k3 (fun y hy ho => by have := nl y hy; simp at ho; omega), g⟩, ⟨F, ?_, f⟩, ?_, ⟨upd N k (roots L k), ?_, fun r hr2 he => ?_⟩, ?_⟩
  · exact k3.row (k2.row (k1.row R (fun y hy => by simp [Value.ownBlock] at hy; simp; omega)) (by simp)) (fun y hy => by simp [Value.ownBlock] at hy; simp; omega)
  · simp only [roots, gvs, if_pos hr]; exact r2
  · have q := row_put NR k (.int .i64 ((roots L k : Nat) : Int))
    rw [intsF_set] at q
    exact k3.row (k2.row q (by simp)) (fun y hy => by simp [Value.ownBlock] at hy; simp; omega)
  · by_cases e : r = k
    · subst e; rw [upd_same]
    · rw [upd_far e]; exact nn r (by omega) he
  · exact ((K.trans k1 (fun y hy => by simp at hy; right; omega)).trans k2 (by simp)).trans k3 (fun y hy => by simp at hy; right; omega)
set_option maxRecDepth 100000 in
set_option maxHeartbeats 4000000 in
theorem groups_t {B : Nat} {w : World} {b n : Nat} {own : List Nat} {L : Nat → Nat} (h : DAt B w b own n L) :
    Calls Try.prog 19 #[.pointer (some ⟨b, 0, none⟩)] w fun e w' => ∃ v, e = .returned v ∧ Rd2 w.heap.size w' v (grp L n) ∧ DAt B w' b own n L ∧ Kp own w w' := by
  have v0 := valid_of h
  have hlt := fun x hx => (h.lt x hx).2
  obtain ⟨vP, vS, P, Z, M, g, hn, hz, hown⟩ := h
  obtain ⟨pP, cP, rfl⟩ := row_slice M.P
  obtain ⟨pS, cS, rfl⟩ := row_slice M.S
  have hR : roots L n ≤ n := roots_le L n
  have hmk : ∀ w : World, (Instr.makeSlice 42 (.int .i64 (n : Int)) (.int .i64 (n : Int))).run Try.prog w = .ok (.slice (some ⟨w.heap.size, 0, none⟩) n n) (w.alloc (.cells (madeCells #[.int .i64 0] n) 3)) :=
    fun w => run_make_row' 42 3 (.int .i64 0) 8 Try.underlying42 info3 rfl .i64 .i64 n (by omega) (by omega) w
  have hmg : ∀ w : World, (Instr.makeSlice 34 (.int .i64 0) (.int .i64 ((roots L n : Nat) : Int))).run Try.prog w = .ok (.slice (some ⟨w.heap.size, 0, none⟩) 0 (roots L n)) (w.alloc (.cells (madeCells #[.slice none 0 0] (roots L n)) 42)) :=
    fun w => run_make_room 34 42 (.slice none 0 0) 24 Try.underlying34 info42 rfl .i64 .i64 (roots L n) (by omega) (by omega) w
  have HI0 := hide (GI.start (own := own) M g hn hR)
  have HID := hide g.idem
  have HLL := hide g.ll
  have HN := hide hn
  have HZ := hide hz
  have HO := hide hown
  have HLT := hide hlt
  have HR := hide hR
  have K1 := Kp.alloc (o := []) w (.cells (madeCells #[.int .i64 0] n) 3)
  have c1 := (M.keep K1 (by simp)).c
  have c2 := M.c
  obtain ⟨-, -, c2, -⟩ := c2
  obtain ⟨-, c1, -, -⟩ := c1
  obtain ⟨i0, hi, hz0, hz1, hz2⟩ := info_parts info42
  have HI := hide (And.intro hi (And.intro hz0 (And.intro hz1 hz2)))
  clear hi hz0 hz1 hz2
  clear M g hz hown hlt
  go_enter Try.func19, Try.ntmps19
  go_wp2_with fail
  refine v0.mono ?_
  rintro e w' ⟨rfl, rfl⟩
  go_wp2_with fail
  clear hmk hmg c1 c2 v0 K1 hn hR
  generalize hW : ((w.alloc (Obj.cells (madeCells #[Value.int IntKind.i64 0] n) 3)).alloc (Obj.cells (madeCells #[Value.slice none 0 0] (roots L n)) 42)).alloc (Obj.cells (madeCells #[Value.int IntKind.i64 0] n) 3) = W at *
  clear hW
  obtain ⟨gl, hgl⟩ : ∃ gl, gl = w.heap.size := ⟨_, rfl⟩
  obtain ⟨gg, hgg⟩ : ∃ gg, gg = w.heap.size + 1 := ⟨_, rfl⟩
  obtain ⟨gn, hgn⟩ : ∃ gn, gn = w.heap.size + 1 + 1 := ⟨_, rfl⟩
  rw [← hgn, ← hgg, ← hgl] at HI0 ⊢
  have HB := hide (show gl ≠ gg ∧ gl ≠ gn ∧ gg ≠ gn ∧ (∀ x ∈ own, x < gl) ∧ w.heap.size = gl ∧ gl < gg ∧ gl < gn from ⟨by omega, by omega, by omega, fun x hx => by have := HLT.out x hx; omega, hgl.symm, by omega, by omega⟩)
  clear hgl hgg hgn
  go_loopw [5, 6, 30] (fun t v x wr => ∃ k : Nat, k ≤ n ∧ t = .int .i64 ((st L n k : Nat) : Int) ∧ v = .slice (some ⟨gg, 0, none⟩) (roots L k) (roots L n) ∧ x = .int .i64 (k : Int) ∧ Hid (GI B w wr b n (.slice pP n cP) (.slice pS n cS) own L Z gl gg gn k k)) (fun _ _ x _ => n - (intOf x).toNat)
  case atStart => exact ⟨0, by omega, rfl, rfl, rfl, HI0⟩
  case round =>
    obtain ⟨k, hk, rfl, rfl, rfl, hG⟩ := hrel
    by_cases hkn : k < n
    · have dk : decide ((k : Int) < (n : Int)) = true := by simp; omega
      have ww : IntKind.i64.wrap ((k : Int) + 1) = ((k + 1 : Nat) : Int) := by have := HN.out; rw [IntKind.wrap_i64]; omega
      obtain ⟨P, M, g⟩ := hG.out.M
      have R1 := hide (root_m M g HO.out k hkn)
      clear M g
      have GN : Hid (∀ w', (∃ P', DM B w' b (.slice pP n cP) (.slice pS n cS) n (roots L n) P' Z ∧ Good n P' L) ∧ Kp own wr w' → GI B w w' b n (.slice pP n cP) (.slice pS n cS) own L Z gl gg gn k k) := by
        rintro w' ⟨m, kk⟩
        obtain ⟨_, ⟨F, R, f⟩, G, ⟨N, NR, nn⟩, K⟩ := hG.out
        obtain ⟨b1, b2, b3, b4, b5, b6, b7⟩ := HB.out
        have nl : ∀ y, gl ≤ y → y ∉ own := fun y hy ho => by have := b4 y ho; omega
        exact ⟨m, ⟨F, kk.row R (fun x hx => by simp [Value.ownBlock] at hx; subst hx; exact nl _ (by omega)), f⟩, kk.row G (fun x hx => by simp [Value.ownBlock] at hx; subst hx; exact nl _ (by omega)), ⟨N, kk.row NR (fun x hx => by simp [Value.ownBlock] at hx; subst hx; exact nl _ (by omega)), nn⟩, K.trans kk (fun x hx => .inl hx)⟩
      go_wp2_with fail
      refine R1.out.mono ?_
      rintro e w1 ⟨rfl, hm, k1⟩
      have G1 := hide (GN.out w1 ⟨hm, k1⟩)
      clear hm k1 GN R1 hG
      have rest : ∀ {A : Prop}, True := fun {A} => trivial
      by_cases hr : L k = k
      case' pos =>
        have er : (((L k : Nat) : Int) == (k : Int)) = true := by simp [hr]
        have HR1 := hide hr
        have HC0 := hide (show cnt L k k = 0 from cnt_none (fun j hj => HLL.out j (by omega)))
        have zc := HZ.out k hkn hr
        have s1 := st_room (n := n) HID.out hr
        have s2 : 0 < cnt L k n := by have := cnt_room (L := L) hkn; rw [hr] at this; omega
        have s3 := roots_lt (L := L) hr hkn
        obtain ⟨⟨P, M, g⟩, _, G, ⟨N, NR, nn⟩, _⟩ := G1.out
        obtain ⟨b1, b2, b3, b4, b5, b6, b7⟩ := HB.out
        obtain ⟨-, -, -, c3⟩ := M.c
        obtain ⟨gS, rfl, e3, f3, _⟩ := row_cell M.S hkn
        rw [intsF_get _ hkn, zc] at e3
        obtain ⟨_, hpp, e4, f4, _⟩ := row_cell NR hkn
        injection hpp with hpp; injection hpp with hpp; subst hpp
        rw [intsF_get _ hkn] at e4
        have nb : b ≠ gn := by have := b4 b (by rw [HO.out]; simp); omega
        have nS : gS ≠ gn := by have := b4 gS (by rw [HO.out]; simp [Value.ownBlock]); omega
        have RG := hide (row_side G (b := gn) (fun y hy => by simp [Value.ownBlock] at hy; omega) k (.int .i64 ((roots L k : Nat) : Int)))
        have dl : decide (st L n k < n) = true := by simp; omega
        have we : IntKind.i64.wrap (((st L n k : Nat) : Int) + ((cnt L k n : Nat) : Int)) = ((st L n k + cnt L k n : Nat) : Int) := by have := HN.out; rw [IntKind.wrap_i64]; omega
        have HS := hide (And.intro s1 (And.intro s2 s3))
        have HX := hide (show st L n (k + 1) = st L n k + cnt L k n by simp [st, hr])
        clear M g NR nn G b4 b5 zc
        have OS := hide (one_src (w1.setCell ⟨gn, k, none⟩ (.int .i64 ((roots L k : Nat) : Int))) (.slice (some ⟨gl, st L n k, none⟩) 0 (cnt L k n)) 42)
        clear hr
        go_wp2_with (at_builtin; refine wpList_append_fits _ rfl _ _ 34 rfl w.heap.size 42 i0 1 Try.underlying34 HI.out.1 HI.out.2.2.1 gg (roots L k) (roots L n) (gvs gl L n k k) rfl (RG.out.alloc _) ⟨w1.heap.size, 0, none⟩ 1 1 [.slice (some ⟨gl, st L n k, none⟩) 0 (cnt L k n)] rfl rfl ?c2 ?c3 (by have := HS.out.2.2; omega) ?_)
        case c2 => have := OS.out; rw [show (w1.setCell ⟨gn, k, none⟩ (.int .i64 ((roots L k : Nat) : Int))).heap.size = w1.heap.size by simp] at this; exact this
        case c3 => intro u hu; simp at hu; subst hu; rfl
        intro w2 r2 g2
        have ev : gv gl L n k k = .slice (some ⟨gl, st L n k, none⟩) 0 (cnt L k n) := by simp [gv, HC0.out]
        rw [← ev] at r2
        have G2 := hide (G1.out.new HR1.out HO.out HB.out _ r2 g2)
        clear r2 g2 ev e3 e4 f3 f4 c3 s1 s2 s3
        have hb1 : Hid (roots L (k + 1) = roots L k + 1 ∧ st L n (k + 1) = st L n k + cnt L k n) := ⟨by simp [roots, HR1.out], HX.out⟩
        have tk : ((st L n k : Nat) : Int) + ((cnt L k n : Nat) : Int) = ((st L n (k + 1) : Nat) : Int) := by rw [HX.out]; simp
        rw [tk]
        rw [← hb1.out.1]
        clear tk we dl OS RG HX HS hb1 HC0
      case' neg =>
        have er : (((L k : Nat) : Int) == (k : Int)) = false := by simp; omega
        have G2 := hide (G1.out.skip hr)
        obtain ⟨w2, hw2⟩ : ∃ w2, w2 = w1 := ⟨_, rfl⟩
        rw [← hw2] at G2 ⊢
        clear hw2
        have hb1 : roots L k = roots L (k + 1) ∧ st L n k = st L n (k + 1) := by simp [roots, st, hr]
        rw [hb1.1, hb1.2]
        clear hb1 hr
      all_goals
        obtain ⟨N, NR, nn⟩ := G2.out.N
        have hlk : L k < n := by have := HLL.out k hkn; omega
        have hidk := HID.out k hkn
        have s4 := roots_lt (L := L) (a := L k) (b := k + 1) hidk (by have := HLL.out k hkn; omega)
        have s5 := roots_lt (L := L) (a := L k) (b := n) hidk hlk
        obtain ⟨_, hpp, e5, f5, _⟩ := row_cell NR hlk
        injection hpp with hpp; injection hpp with hpp; subst hpp
        rw [intsF_get _ hlk, nn (L k) (by have := HLL.out k hkn; omega) hidk] at e5
        obtain ⟨_, hpp, e6, f6, _⟩ := row_cell G2.out.G s4
        injection hpp with hpp; injection hpp with hpp; subst hpp
        rw [gvs_get hidk (k + 1) (by have := HLL.out k hkn; omega)] at e6
        unfold gv at e6
        have GA := G2.out.keep (Kp.alloc (o := []) w2 (.cells #[.int .i64 (k : Int)] 3))
        obtain ⟨F, R, -⟩ := GA.R
        obtain ⟨_, hpp, e8, f8, _⟩ := row_cell GA.G s4
        injection hpp with hpp; injection hpp with hpp; subst hpp
        rw [gvs_get hidk (k + 1) (by have := HLL.out k hkn; omega)] at e8
        unfold gv at e8
        have s6 := st_room (n := n) HID.out hidk
        have s7 := cnt_room (L := L) hkn
        have s8 : st L n (L k) + cnt L (L k) k < n := by omega
        obtain ⟨_, hpp, e7, f7, _⟩ := row_cell R s8
        injection hpp with hpp; injection hpp with hpp; subst hpp
        rw [intsF_get _ s8] at e7
        have GP := hide (G2.out.put hkn HID.out HLL.out HO.out HB.out (.cells #[.int .i64 (k : Int)] 3))
        have W1 := hide (one_src w2 (.int .i64 (k : Int)) 3)
        have Hs := hide (And.intro s7 (And.intro s6 s8))
        have ndl : gl ≠ gg := HB.out.1
        clear NR nn R s6 hidk GA
        generalize hR1 : roots L (k + 1) = R1 at *
        have HR1 := hide hR1
        clear hR1
        go_wp2_with fail
        go_roundw
        case rel => exact ⟨k + 1, by omega, rfl, by rw [HR1.out], rfl, GP.out⟩
        case measure => simp [intOf]; omega
    · have : k = n := by omega
      subst this
      have dk : decide ((k : Int) < (k : Int)) = false := by simp
      go_wp2_with fail
      go_ret
      obtain ⟨⟨P, M, g⟩, ⟨F, R, f⟩, G, _, K⟩ := hG.out
      exact ⟨_, rfl, rd_groups HID.out G R f, ⟨_, _, P, Z, M, g, HN.out, HZ.out, HO.out⟩, K⟩
end Go.Proofs.Ytgnifimibonbjaa
