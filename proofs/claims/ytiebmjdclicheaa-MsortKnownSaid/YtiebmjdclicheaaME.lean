/- merge, of records. -/
import Derived.Test.YtiebmjdclicheaaMD
set_option linter.unusedVariables false
set_option linter.unusedSimpArgs false
namespace Go.Proofs.Ytiebmjdclicheaa
open Go.RowKit

/-- the records l at p -/
def RdR (w : World) (p : Option Addr) (l : List R4) : Prop := l = [] ∨ ∃ b off, p = some ⟨b, off, none⟩ ∧ b < w.heap.size ∧ ∀ (i : Nat) (x : R4), l[i]? = some x → w.cell? ⟨b, off + i * 4, none⟩ = some (.int .u64 x.u) ∧ w.cell? ⟨b, off + i * 4 + 1, none⟩ = some (.int .u64 x.v) ∧ w.cell? ⟨b, off + i * 4 + 2, none⟩ = some (.int .i64 x.w) ∧ w.cell? ⟨b, off + i * 4 + 3, none⟩ = some (.int .i64 x.t)
theorem RdR.below {w w' : World} {p : Option Addr} {l : List R4} (h : RdR w p l) (k : Kp [] w w') : RdR w' p l := by
  rcases h with h | ⟨b, off, rfl, hb, hc⟩
  · exact .inl h
  · exact .inr ⟨b, off, rfl, Nat.lt_of_lt_of_le hb k.size, fun i x hx => by
      have := hc i x hx
      exact ⟨(k.at hb _).trans this.1, (k.at hb _).trans this.2.1, (k.at hb _).trans this.2.2.1, (k.at hb _).trans this.2.2.2⟩⟩
def zR : Value := .agg #[.int .u64 0, .int .u64 0, .int .i64 0, .int .i64 0]
theorem infoR : (Try.prog.info? 24).map (fun i => (i.zero, i.size, i.bytes)) = some (some zR, 4, 32) := by kernel_rfl
theorem litR (a b c d : Int) (w : World) : (Instr.buildSlice 31 1 #[(0, .agg #[.int .u64 a, .int .u64 b, .int .i64 c, .int .i64 d])]).run Try.prog w = .ok (.slice (some ⟨w.heap.size, 0, none⟩) 1 1) (w.alloc (.cells #[.int .u64 a, .int .u64 b, .int .i64 c, .int .i64 d] 24)) := by kernel_rfl
def rows (l : List R4) : List Value := l.flatMap R4.cells
theorem rows_snoc (out : List R4) (x : R4) : rows (out ++ [x]) = rows out ++ x.cells := by simp [rows]
theorem rows_len (l : List R4) : (rows l).length = l.length * 4 := by
  induction l with
  | nil => rfl
  | cons x r ih => simp only [rows, List.flatMap_cons, List.length_append] at ih ⊢; rw [ih]; simp [R4.cells]; omega
theorem rows_one (l : List R4) : ∀ u ∈ rows l, u.oneCell' = true := by
  intro u hu
  simp [rows] at hu
  obtain ⟨x, _, hx⟩ := hu
  simp [R4.cells] at hx
  rcases hx with rfl | rfl | rfl | rfl <;> rfl
theorem rows_get : ∀ (l : List R4) (i j : Nat) (x : R4), l[i]? = some x → j < 4 → (rows l)[i * 4 + j]? = x.cells[j]?
  | [], i, j, x, h, _ => by simp at h
  | y :: r, 0, j, x, h, hj => by
    simp at h; subst h
    simp only [rows, List.flatMap_cons]
    rw [Nat.zero_mul, Nat.zero_add, List.getElem?_append_left (by simp [R4.cells]; omega)]
  | y :: r, i + 1, j, x, h, hj => by
    have q := rows_get r i j x (by simpa using h) hj
    simp only [rows, List.flatMap_cons] at q ⊢
    rw [List.getElem?_append_right (by simp [R4.cells]; omega), ← q]
    congr 1
    simp [R4.cells]; omega
theorem cells_src (w : World) (x : R4) : ∀ (j : Nat) (u : Value), x.cells[j]? = some u → (w.alloc (.cells #[.int .u64 x.u, .int .u64 x.v, .int .i64 x.w, .int .i64 x.t] 24)).cell? ((⟨w.heap.size, 0, none⟩ : Addr).add j) = some u := by
  intro j u hj
  rw [Addr.add_lit, Nat.zero_add, World.cell?_alloc_new]
  simpa [R4.cells] using hj
theorem rows_one1 (x : R4) : ∀ u ∈ x.cells, u.oneCell' = true := by
  intro u hu
  simp [R4.cells] at hu
  rcases hu with rfl | rfl | rfl | rfl <;> rfl
/-- a record in four cells -/
def At4 (w : World) (b o : Nat) (x : R4) : Prop := w.cell? ⟨b, o, none⟩ = some (.int .u64 x.u) ∧ w.cell? ⟨b, o + 1, none⟩ = some (.int .u64 x.v) ∧ w.cell? ⟨b, o + 2, none⟩ = some (.int .i64 x.w) ∧ w.cell? ⟨b, o + 3, none⟩ = some (.int .i64 x.t)
theorem at4_blk {w : World} {b : Nat} {x : R4} {t : TypeId} (h : w.heap[b]? = some (.cells #[.int .u64 x.u, .int .u64 x.v, .int .i64 x.w, .int .i64 x.t] t (0, 0))) : At4 w b 0 x := by
  refine ⟨?_, ?_, ?_, ?_⟩ <;> simp [cell_of_blk h]
theorem rows_at {w : World} {b off : Nat} {l : List R4} (h : ∀ (i : Nat) (x : R4), l[i]? = some x → At4 w b (off + i * 4) x) (t : Nat) (u : Value) (hu : (rows l)[t]? = some u) : w.cell? ⟨b, off + t, none⟩ = some u := by
  have ht : t < l.length * 4 := by have := (List.getElem?_eq_some_iff.1 hu).1; rw [rows_len] at this; exact this
  obtain ⟨q, hq⟩ : ∃ q, q = t / 4 := ⟨_, rfl⟩
  obtain ⟨j, hj⟩ : ∃ j, j = t % 4 := ⟨_, rfl⟩
  have e : t = q * 4 + j := by omega
  obtain ⟨x, hx⟩ : ∃ x, l[q]? = some x := ⟨_, List.getElem?_eq_getElem (show q < l.length by omega)⟩
  have g := rows_get l q j x hx (by omega)
  rw [← e, hu] at g
  obtain ⟨c0, c1, c2, c3⟩ := h q x hx
  rw [e, ← Nat.add_assoc]
  rcases (show j = 0 ∨ j = 1 ∨ j = 2 ∨ j = 3 by omega) with rfl | rfl | rfl | rfl <;> simp [R4.cells] at g <;> subst g
  · exact c0
  · exact c1
  · exact c2
  · exact c3
set_option maxRecDepth 100000 in
set_option maxHeartbeats 16000000 in
theorem mergeR_t {bf : R4 → R4 → Bool} {w : World} {la lb : List R4} {p q : Option Addr} {ca cb k : Nat} {cap : Array Value} (ha : RdR w p la) (hb : RdR w q lb) (hca : la.length ≤ ca ∧ ca ≤ maxLen ∧ ((p = none ∧ ca = 0) ∨ ∃ b off, p = some ⟨b, off, none⟩)) (hl : la.length ≤ 65536 ∧ lb.length ≤ 65536)
    (he : ∀ args w, (callFunc k args).run Try.prog w = .ok (.enter k args) w)
    (hc : ∀ W, Kp [] w W → ∀ x y : R4, x ∈ la → y ∈ lb → Calls Try.prog k (#[y.val, x.val] ++ cap) W fun e W' => e = .returned (.bool (bf y x)) ∧ Kp [] W W') :
    Calls Try.prog 39 #[.slice p la.length ca, .slice q lb.length cb, .func (.func k) #[] cap] w fun e w' => ∃ v, e = .returned (.tuple #[v, .int .i64 ((mrg bf la lb).2 : Int)]) ∧ w'.ownsRow w.heap.size 24 4 v (la.length + lb.length) (rows (mrg bf la lb).1) ∧ Kp [] w w' := by
  have HA := hide ha
  have HB := hide hb
  have HC := hide hc
  have HL := hide hl
  have HCA := hide hca
  obtain ⟨i0, hi, hz0, hz1, hz2⟩ := infoParts infoR
  have HI := hide (And.intro hi (And.intro hz0 (And.intro hz1 hz2)))
  have m1 := fun (x : R4) W => litR x.u x.v x.w x.t W
  obtain ⟨na, hna⟩ : ∃ n, n = la.length := ⟨_, rfl⟩
  obtain ⟨nb, hnb⟩ : ∃ n, n = lb.length := ⟨_, rfl⟩
  have HNA := hide hna
  have HNB := hide hnb
  obtain ⟨nn, hnn⟩ : ∃ n, n = na + nb := ⟨_, rfl⟩
  have HNN := hide hnn
  have en : (na : Int) + (nb : Int) = (nn : Int) := by omega
  have wn : IntKind.i64.wrap (nn : Int) = (nn : Int) := by rw [IntKind.wrap_i64]; omega
  rw [← hna, ← hnb]
  clear ha hb hc hl hca hna hnb hnn hi hz0 hz1 hz2
  go_enter Try.func39, Try.ntmps39
  go_wp2_with (refine wpList_make_own w rfl _ _ 31 rfl w.heap.size 24 i0 zR 4 Try.underlying31 HI.out.1 HI.out.2.1 HI.out.2.2.1 .i64 .i64 _ nn rfl rfl rfl (by rw [HI.out.2.2.2]; have := HL.out; have := HNA.out; have := HNB.out; have := HNN.out; omega) (by have := HL.out; have := HNA.out; have := HNB.out; have := HNN.out; unfold maxLen; omega) (Nat.le_refl _) ?_)
  intro w0 r0 g0
  have R0 := hide r0
  have K0 : Hid (Kp [] w w0) := (Kp.refl [] w).grown g0 (by simp)
  clear r0 g0
  go_wp2_with fail
  go_loopw [8, 9, 10, 21] (fun m n i j wr => ∃ (I J : Nat) (out : List R4) (N : Nat), n = .int .i64 (N : Int) ∧ i = .int .i64 (I : Int) ∧ j = .int .i64 (J : Int) ∧ Hid (wr.ownsRow w.heap.size 24 4 m out.length (rows out)) ∧ Hid (I ≤ na ∧ J ≤ nb ∧ out.length = I + J) ∧ Hid (Part bf la lb I J out N) ∧ Hid (N ≤ na * J) ∧ Hid (Kp [] w wr)) (fun _ _ _ j _ => nb - (intOf j).toNat)
  case atStart => exact ⟨0, 0, [], 0, rfl, rfl, rfl, R0.out, ⟨Nat.zero_le _, Nat.zero_le _, rfl⟩, Part.start bf la lb, Nat.zero_le _, K0.out⟩
  case round =>
    obtain ⟨I, J, out, N, rfl, rfl, rfl, hm, hb, hP, hN, hK⟩ := hrel
    by_cases hlt : J < nb
    · have dk : decide ((J : Int) < (nb : Int)) = true := by simpa using hlt
      have dk' : decide (J < nb) = true := by simpa using hlt
      have wJ : IntKind.i64.wrap ((J : Int) + 1) = (J : Int) + 1 := by have := HL.out; have := HNB.out; rw [IntKind.wrap_i64]; omega
      have bJ : (J : Int) < (nb : Int) := by omega
      obtain ⟨y, hy⟩ : ∃ y, lb[J]? = some y := ⟨_, List.getElem?_eq_getElem (by rw [← HNB.out]; exact hlt)⟩
      have HY := hide hy
      have ymem := hide (show y ∈ lb from List.mem_of_getElem? hy)
      have nb0 := hide (show lb ≠ [] by intro e; rw [e] at hy; cases hy)
      rcases HB.out.below hK.out with h0 | ⟨bq, oq, rfl, _, hq⟩
      · exact absurd h0 nb0.out
      obtain ⟨e1, e1b, e1c, e1d⟩ := hq J y hy
      have HLT := hide hlt
      clear hq hy hlt
      obtain ⟨wo, hwo⟩ : ∃ wo : World, wo = wr := ⟨_, rfl⟩
      rw [← hwo] at e1 e1b e1c e1d hm hK ⊢
      clear hwo
      go_wp2_with fail
      clear e1 e1b e1c e1d
      obtain ⟨W1, hW1⟩ : ∃ W, W = wo.alloc (.cells #[.int .u64 y.u, .int .u64 y.v, .int .i64 y.w, .int .i64 y.t] 24) := ⟨_, rfl⟩
      have BY : Hid (W1.heap[wo.heap.size]? = some (.cells #[.int .u64 y.u, .int .u64 y.v, .int .i64 y.w, .int .i64 y.t] 24 (0, 0))) := by rw [hW1]; exact heap_alloc_new _ _
      have KW : Hid (Kp [] wo W1) := by rw [hW1]; exact Kp.alloc _ _
      rw [← hW1]
      obtain ⟨yb, hyb⟩ : ∃ b, b = wo.heap.size := ⟨_, rfl⟩
      rw [← hyb] at BY ⊢
      have hmW := hide (KW.out.row hm.out (by simp))
      have hKW := hide (hK.out.trans0 KW.out)
      have nyb := hide (show ∀ z, u8.ownBlock = some z → z ≠ yb from fun z hz => by have := (hm.out.lt z hz).2; omega)
      clear hW1 hyb
      go_loopw [8, 10] (fun m i wr => ∃ (I : Nat) (out : List R4), i = .int .i64 (I : Int) ∧ Hid (wr.ownsRow w.heap.size 24 4 m out.length (rows out)) ∧ Hid (I ≤ na ∧ out.length = I + J) ∧ Hid (Part bf la lb I J out N) ∧ Hid (Kp [] w wr ∧ wr.heap[yb]? = some (.cells #[.int .u64 y.u, .int .u64 y.v, .int .i64 y.w, .int .i64 y.t] 24 (0, 0)) ∧ ∀ z, m.ownBlock = some z → z ≠ yb)) (fun _ i _ => na - (intOf i).toNat)
      case atStart => exact ⟨I, out, rfl, hmW.out, ⟨hb.out.1, hb.out.2.2⟩, hP.out, hKW.out, BY.out, nyb.out⟩
      case round =>
        obtain ⟨I', out', rfl, hm', hI', hP', hKx⟩ := hrel
        have hK' := hide hKx.out.1
        have HSZ := hide hK'.out.size
        have BYr := hide hKx.out.2.1
        by_cases hi : I' < na
        · have ek : decide ((I' : Int) < (na : Int)) = true := by simpa using hi
          have ek' : decide (I' < na) = true := by simpa using hi
          have wI : IntKind.i64.wrap ((I' : Int) + 1) = (I' : Int) + 1 := by have := HL.out; have := HNA.out; rw [IntKind.wrap_i64]; omega
          have bI : (I' : Int) < (na : Int) := by omega
          obtain ⟨x, hx⟩ : ∃ x, la[I']? = some x := ⟨_, List.getElem?_eq_getElem (by rw [← HNA.out]; exact hi)⟩
          have HX := hide hx
          have na0 := hide (show la ≠ [] by intro e; rw [e] at hx; cases hx)
          rcases HA.out.below hK'.out with h0 | ⟨bp, op, rfl, _, hp⟩
          · exact absurd h0 na0.out
          have CC := hide (HC.out _ (hK'.out.trans0 (Kp.drewN [] wr 1)) x y (List.mem_of_getElem? hx) ymem.out)
          have SX : Hid (∀ W, Kp [] wr W → At4 W yb 0 y ∧ At4 W bp (op + I' * 4) x) := fun W kW => ⟨at4_blk (kW.blk BYr.out (by simp)), by
            rcases HA.out.below (hK'.out.trans0 kW) with h0 | ⟨bp', op', hpp, _, hp'⟩
            · exact absurd h0 na0.out
            · have hpp := Option.some.inj hpp
              injection hpp with h1 h2 _
              subst h1; subst h2
              exact hp' I' x HX.out⟩
          have HLI := hide hi
          have S0 : wr.drew.cell? ⟨yb, 0, none⟩ = some (.int .u64 y.u) ∧ wr.drew.cell? ⟨yb, 1, none⟩ = some (.int .u64 y.v) ∧ wr.drew.cell? ⟨yb, 2, none⟩ = some (.int .i64 y.w) ∧ wr.drew.cell? ⟨yb, 3, none⟩ = some (.int .i64 y.t) ∧ wr.drew.cell? ⟨bp, op + I' * 4, none⟩ = some (.int .u64 x.u) ∧ wr.drew.cell? ⟨bp, op + I' * 4 + 1, none⟩ = some (.int .u64 x.v) ∧ wr.drew.cell? ⟨bp, op + I' * 4 + 2, none⟩ = some (.int .i64 x.w) ∧ wr.drew.cell? ⟨bp, op + I' * 4 + 3, none⟩ = some (.int .i64 x.t) := by
            obtain ⟨⟨a1, a2, a3, a4⟩, b1, b2, b3, b4⟩ := SX.out _ (Kp.drewN [] wr 1)
            exact ⟨a1, a2, a3, a4, b1, b2, b3, b4⟩
          unfold R4.val at CC
          clear hp hx hi
          go_wp2_with fail
          go_region_held3 (fun w' => w'.cell? ⟨yb, 0, none⟩ = some (.int .u64 y.u) ∧ w'.cell? ⟨yb, 1, none⟩ = some (.int .u64 y.v) ∧ w'.cell? ⟨yb, 2, none⟩ = some (.int .i64 y.w) ∧ w'.cell? ⟨yb, 3, none⟩ = some (.int .i64 y.t) ∧ w'.cell? ⟨bp, op + I' * 4, none⟩ = some (.int .u64 x.u) ∧ w'.cell? ⟨bp, op + I' * 4 + 1, none⟩ = some (.int .u64 x.v) ∧ w'.cell? ⟨bp, op + I' * 4 + 2, none⟩ = some (.int .i64 x.w) ∧ w'.cell? ⟨bp, op + I' * 4 + 3, none⟩ = some (.int .i64 x.t))
            (first | with_reducible assumption | exact S0 | exact S1)
            (first | (refine CC.out.mono ?_; rintro e w1 ⟨rfl, k1d⟩; have k1 : Kp [] wr w1 := (Kp.drewN [] wr 1).trans0 k1d; have S1 : w1.cell? ⟨yb, 0, none⟩ = some (.int .u64 y.u) ∧ w1.cell? ⟨yb, 1, none⟩ = some (.int .u64 y.v) ∧ w1.cell? ⟨yb, 2, none⟩ = some (.int .i64 y.w) ∧ w1.cell? ⟨yb, 3, none⟩ = some (.int .i64 y.t) ∧ w1.cell? ⟨bp, op + I' * 4, none⟩ = some (.int .u64 x.u) ∧ w1.cell? ⟨bp, op + I' * 4 + 1, none⟩ = some (.int .u64 x.v) ∧ w1.cell? ⟨bp, op + I' * 4 + 2, none⟩ = some (.int .i64 x.w) ∧ w1.cell? ⟨bp, op + I' * 4 + 3, none⟩ = some (.int .i64 x.t) := (by obtain ⟨⟨a1, a2, a3, a4⟩, b1, b2, b3, b4⟩ := SX.out _ k1; exact ⟨a1, a2, a3, a4, b1, b2, b3, b4⟩); clear k1d))
          obtain ⟨s1, s2, s3, s4, s5, s6, s7, s8⟩ := S1
          have BY1 := hide (k1.blk BYr.out (by simp))
          have LT1 := hide (lt_of_blk BY1.out)
          have K1 := hide (hK'.out.trans0 k1)
          have HSZ := hide K1.out.size
          have R1 := hide (k1.row hm'.out (by simp))
          have HLL := hide (show out'.length ≤ 131072 by have := hI'.out; have := HL.out; have := HNA.out; have := HNB.out; have := HLT.out; omega)
          clear k1 CC
          by_cases hb' : bf y x = true
          · have HBF := hide hb'
            rw [hb']
            clear hb' S0
            have wS : IntKind.i64.wrap ((na : Int) - (I' : Int)) = ((na - I' : Nat) : Int) := by have := HL.out; have := HNA.out; have := HLI.out; rw [IntKind.wrap_i64]; omega
            obtain ⟨d, hd⟩ : ∃ d, d = na - I' := ⟨_, rfl⟩
            rw [← hd] at wS
            have mb : na * J ≤ 65536 * 65536 := Nat.mul_le_mul (by have := HL.out; have := HNA.out; omega) (by have := HL.out; have := HNB.out; have := HLT.out; omega)
            have wA : IntKind.i64.wrap ((N : Int) + (d : Int)) = ((N + d : Nat) : Int) := by have := hN.out; have := HL.out; have := HNA.out; rw [IntKind.wrap_i64]; omega
            have HDD := hide hd
            obtain ⟨nd, hnd⟩ : ∃ nd, nd = N + d := ⟨_, rfl⟩
            have HND := hide hnd
            rw [← hnd] at wA
            have R1' := hide ((Kp.alloc (w := w1) (.cells #[.int .u64 y.u, .int .u64 y.v, .int .i64 y.w, .int .i64 y.t] 24)).row R1.out (by simp))
            have my := m1 y
            clear hd hnd mb
            go_wp2_with (at_builtin; refine wpList_append_own _ rfl _ _ 31 rfl w.heap.size 24 i0 zR 4 32 Try.underlying31 HI.out.1 HI.out.2.1 HI.out.2.2.1 HI.out.2.2.2 rfl (by decide) _ out'.length (rows out') rfl R1'.out ⟨w1.heap.size, 0, none⟩ 1 1 y.cells rfl rfl (cells_src w1 y) (rows_one1 y) (by have := HLL.out; unfold maxLen; omega) (by have := HLL.out; omega) (by have := HSZ.out; simp; omega) ?_)
            intro v' w' ho hg _
            rw [← rows_snoc] at ho
            have HO := hide ho
            have HK2 := hide ((K1.out.allocK (.cells #[.int .u64 y.u, .int .u64 y.v, .int .i64 y.w, .int .i64 y.t] 24)).grown hg (fun z hz => (R1.out.lt z hz).1))
            clear ho hg
            go_wp2_with fail
            go_roundw
            case rel => exact ⟨I', J + 1, out' ++ [y], nd, rfl, rfl, by go_num, by rw [List.length_append]; exact HO.out, ⟨hI'.out.1, by have := HLT.out; omega, by rw [List.length_append]; have := hI'.out; simp; omega⟩, by rw [HND.out, HDD.out, HNA.out]; exact hP'.out.next HY.out (.inr ⟨x, HX.out, HBF.out⟩), by have h1 := hN.out; have h2 : na * (J + 1) = na * J + na := Nat.mul_succ _ _; show nd ≤ _; rw [h2, HND.out, HDD.out]; omega, HK2.out⟩
            case measure => have := HLT.out; simp [intOf]; omega
          · have HBF := hide (show bf y x = false by simpa using hb')
            rw [HBF.out]
            have R1' := hide ((Kp.alloc (w := w1) (.cells #[.int .u64 x.u, .int .u64 x.v, .int .i64 x.w, .int .i64 x.t] 24)).row R1.out (by simp))
            have mx := m1 x
            clear hb' S0
            go_wp2_with (at_builtin; refine wpList_append_new _ rfl _ _ 31 rfl w.heap.size 24 i0 zR 4 32 Try.underlying31 HI.out.1 HI.out.2.1 HI.out.2.2.1 HI.out.2.2.2 (by decide) (by decide) _ out'.length (rows out') rfl R1'.out ⟨w1.heap.size, 0, none⟩ 1 1 x.cells rfl rfl (cells_src w1 x) (rows_one1 x) (by have := HLL.out; unfold maxLen; omega) (by have := HLL.out; omega) (by have := HSZ.out; simp; omega) ?_)
            intro v' w' ho hg hnew
            rw [← rows_snoc] at ho
            have HO := hide ho
            have HK2 := hide ((K1.out.allocK (.cells #[.int .u64 x.u, .int .u64 x.v, .int .i64 x.w, .int .i64 x.t] 24)).grown hg (fun z hz => (R1.out.lt z hz).1))
            have BY3 := hide (show w'.heap[yb]? = _ from (hg.block yb (by have := LT1.out; simp; omega) (fun e => hKx.out.2.2 yb e.symm rfl)).trans ((Kp.alloc w1 (.cells #[.int .u64 x.u, .int .u64 x.v, .int .i64 x.w, .int .i64 x.t] 24)).blk BY1.out (by simp)))
            have NY3 := hide (show ∀ z, v'.ownBlock = some z → z ≠ yb from fun z hz => by
              rcases hnew with h | ⟨z', h, hge⟩
              · rw [h] at hz; exact hKx.out.2.2 z hz
              · rw [h] at hz; injection hz with hz; subst hz; have := LT1.out; (try simp at hge); omega)
            clear ho hg hnew
            go_wp2_with fail
            go_roundw
            case rel => exact ⟨I' + 1, out' ++ [x], by go_num, by rw [List.length_append]; exact HO.out, ⟨by have := HLI.out; omega, by rw [List.length_append]; have := hI'.out; simp; omega⟩, hP'.out.skip HX.out HY.out HBF.out, HK2.out, BY3.out, NY3.out⟩
            case measure => have := HLI.out; simp [intOf]; omega
        · have hin : I' = na := by have := hI'.out; omega
          have ek : decide ((I' : Int) < (na : Int)) = false := by simpa using hi
          have ek' : decide (I' < na) = false := by simpa using hi
          have HIN := hide hin
          have wS : IntKind.i64.wrap ((na : Int) - (I' : Int)) = 0 := by rw [hin, IntKind.wrap_i64]; omega
          have mb : na * J ≤ 65536 * 65536 := Nat.mul_le_mul (by have := HL.out; have := HNA.out; omega) (by have := HL.out; have := HNB.out; have := HLT.out; omega)
          have wA : IntKind.i64.wrap (N : Int) = (N : Int) := by have := hN.out; rw [IntKind.wrap_i64]; omega
          have HLL := hide (show out'.length ≤ 131072 by have := hI'.out; have := HL.out; have := HNA.out; have := HNB.out; have := HLT.out; omega)
          obtain ⟨a1, a2, a3, a4⟩ : At4 wr yb 0 y := at4_blk BYr.out
          clear hin hi mb
          go_wp2_with fail
          go_quiet (fail)
          obtain ⟨wd, hwd⟩ : ∃ wd, wd = wr.drewN nq := ⟨_, rfl⟩
          have kd := hide (show Kp [] wr wd by rw [hwd]; exact Kp.drewN _ _ _)
          rw [← hwd]
          clear hwd a1 a2 a3 a4
          obtain ⟨a1, a2, a3, a4⟩ : At4 wd yb 0 y := at4_blk (kd.out.blk BYr.out (by simp))
          have hmd := hide (kd.out.row hm'.out (by simp))
          have hKd := hide (hK'.out.trans0 kd.out)
          have HSZ := hide hKd.out.size
          have R1' := hide ((Kp.alloc (w := wd) (.cells #[.int .u64 y.u, .int .u64 y.v, .int .i64 y.w, .int .i64 y.t] 24)).row hmd.out (by simp))
          have my := m1 y
          go_wp2_with (at_builtin; refine wpList_append_own _ rfl _ _ 31 rfl w.heap.size 24 i0 zR 4 32 Try.underlying31 HI.out.1 HI.out.2.1 HI.out.2.2.1 HI.out.2.2.2 rfl (by decide) _ out'.length (rows out') rfl R1'.out ⟨wd.heap.size, 0, none⟩ 1 1 y.cells rfl rfl (cells_src wd y) (rows_one1 y) (by have := HLL.out; unfold maxLen; omega) (by have := HLL.out; omega) (by have := HSZ.out; simp; omega) ?_)
          intro v' w' ho hg _
          rw [← rows_snoc] at ho
          have HO := hide ho
          have HK2 := hide ((hKd.out.allocK (.cells #[.int .u64 y.u, .int .u64 y.v, .int .i64 y.w, .int .i64 y.t] 24)).grown hg (fun z hz => (hmd.out.lt z hz).1))
          clear ho hg
          go_wp2_with fail
          go_roundw
          case rel => exact ⟨I', J + 1, out' ++ [y], N, rfl, rfl, by go_num, by rw [List.length_append]; exact HO.out, ⟨hI'.out.1, by have := HLT.out; omega, by rw [List.length_append]; have := hI'.out; simp; omega⟩, by have q := hP'.out.next HY.out (.inl (by rw [← HNA.out, HIN.out]; exact Nat.le_refl _)); rw [← HNA.out, HIN.out, Nat.sub_self, Nat.add_zero] at q; rw [HIN.out]; exact q, by have h1 := hN.out; have h2 : na * (J + 1) = na * J + na := Nat.mul_succ _ _; show N ≤ _; rw [h2]; omega, HK2.out⟩
          case measure => have := HLT.out; simp [intOf]; omega
    · have hJ : J = nb := by have := hb.out; omega
      have dk : decide ((J : Int) < (nb : Int)) = false := by simpa using hlt
      have dk' : decide (J < nb) = false := by simpa using hlt
      have dn := hP.out
      rw [hJ, HNB.out] at dn
      have DN := hide dn.done
      have HSZ := hide hK.out.size
      have HLL := hide (show out.length ≤ 131072 by have := hb.out; have := HL.out; have := HNA.out; have := HNB.out; omega)
      have OL := hide (show (mrg bf la lb).1.length = na + nb by rw [mrg_len, HNA.out, HNB.out])
      have l1 : I ≤ na := hb.out.1
      have l2 : na ≤ ca := by have := HCA.out; have := HNA.out; omega
      have l3 : I ≤ ca := by omega
      have HJ := hide hJ
      clear dn hlt hJ
      rcases HCA.out.2.2 with ⟨rfl, rfl⟩ | ⟨bp, op, rfl⟩
      · have la0 : la = [] := by
          rcases HA.out with h | ⟨_, _, h, _⟩
          · exact h
          · cases h
        have na00 : na = 0 := by rw [HNA.out, la0]; rfl
        subst na00
        have i00 : I = 0 := by omega
        subst i00
        have F := hide (show out = (mrg bf la lb).1 by have := DN.out.1; rw [la0] at this ⊢; simpa using this)
        clear la0 l1 l2 l3
        go_wp2_with (at_builtin; refine wpList_append_own_none rfl _ _ 31 rfl w.heap.size 24 i0 4 Try.underlying31 HI.out.1 _ out.length (rows out) rfl hm.out rfl ?_)
        go_wp2_with fail
        go_ret2
        refine ⟨_, by rw [DN.out.2]; rfl, ?_, hK.out⟩
        have qr := hm.out
        rw [F.out, OL.out] at qr
        rw [← Nat.zero_add nb]
        first | exact qr | (rw [Nat.zero_add] at qr ⊢; exact qr)
      · obtain ⟨news, hnews⟩ : ∃ news, news = rows (la.drop I) := ⟨_, rfl⟩
        have hlen : news.length = (na - I) * 4 := by rw [hnews, rows_len]; simp [HNA.out]
        obtain ⟨A, hA, hsrc⟩ : ∃ A : Addr, (if ca = I then (some ⟨bp, op, none⟩ : Option Addr) else some ⟨bp, op + I * 4, none⟩) = some A ∧ Hid (∀ t u, news[t]? = some u → wr.cell? (A.add t) = some u) := by
          by_cases h : ca = I
          · refine ⟨⟨bp, op, none⟩, by simp [h], fun t u hu => ?_⟩
            have h0 : news.length = 0 := by rw [hlen]; omega
            rw [List.length_eq_zero_iff.1 h0] at hu
            simp at hu
          · refine ⟨⟨bp, op + I * 4, none⟩, by simp [h], fun t u hu => ?_⟩
            rw [hnews] at hu
            rw [Addr.add_lit]
            refine rows_at (l := la.drop I) (fun i x hx => ?_) t u hu
            rw [List.getElem?_drop] at hx
            rcases HA.out.below hK.out with h0 | ⟨b', o', hpp, _, hp⟩
            · rw [h0] at hx; simp at hx
            · have hpp := Option.some.inj hpp
              injection hpp with h1 h2 _
              subst h1; subst h2
              have := hp (I + i) x hx
              rw [show op + I * 4 + i * 4 = op + (I + i) * 4 by omega]
              exact this
        obtain ⟨dd, hdd⟩ : ∃ d, d = na - I := ⟨_, rfl⟩
        have s1 : Hid (news.length = dd * 4) := by rw [hdd]; exact hlen
        have s2 : Hid (∀ u ∈ news, u.oneCell' = true) := by rw [hnews]; exact rows_one _
        have F := hide (show rows out ++ news = rows (mrg bf la lb).1 by rw [← DN.out.1, hnews]; simp [rows])
        have HDD := hide (show out.length + dd = na + nb by have := hb.out; have := HJ.out; omega)
        have edd : na - I = dd := hdd.symm
        clear hnews hlen hdd
        go_wp2_with (at_builtin; refine wpList_append_own _ rfl _ _ 31 rfl w.heap.size 24 i0 zR 4 32 Try.underlying31 HI.out.1 HI.out.2.1 HI.out.2.2.1 HI.out.2.2.2 rfl (by decide) _ out.length (rows out) rfl hm.out A dd _ news rfl s1.out hsrc.out s2.out (by have := HLL.out; have := HDD.out; have := HL.out; have := HNA.out; have := HNB.out; unfold maxLen; omega) (by have := HLL.out; have := HDD.out; have := HL.out; have := HNA.out; have := HNB.out; omega) HSZ.out ?_)
        intro v' w' ho hg _
        rw [F.out, HDD.out] at ho
        have HO := hide ho
        have HK2 := hide (hK.out.grown hg (fun z hz => (hm.out.lt z hz).1))
        clear ho hg
        go_wp2_with fail
        go_ret2
        exact ⟨_, by rw [DN.out.2]; rfl, HO.out, HK2.out⟩
end Go.Proofs.Ytiebmjdclicheaa
