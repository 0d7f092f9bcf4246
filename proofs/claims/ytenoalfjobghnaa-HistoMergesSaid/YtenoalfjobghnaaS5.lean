/- The specification's product of wide integers, and its Mul. -/
import Derived.Test.YtenoalfjobghnaaS4
set_option linter.unusedVariables false
set_option linter.unusedSimpArgs false
namespace Go.Proofs.Ytenoalfjobghnaa
open Go.RowKit

theorem uw_in {n : Nat} (h : n < 18446744073709551616) : IntKind.u64.wrap (n : Int) = (n : Int) := by rw [IntKind.wrap_u64]; omega

theorem nl_set {l : List Nat} {k v : Nat} (hk : k < l.length) : nl (l.set k v) + 4294967296 ^ k * l.getD k 0 = nl l + 4294967296 ^ k * v := by
  have hk2 : k < (l.set k v).length := by simpa using hk
  rw [nl_split hk2, nl_split hk, take_set hk, getD_set hk, List.drop_set_of_lt (by omega)]
  generalize nl (l.take k) = a
  generalize nl (l.drop (k + 1)) = b
  generalize l.getD k 0 = c
  rw [Nat.mul_add, Nat.mul_add]
  omega
/-- the product, row by row: before row i -/
structure Row (la : List Nat) (m : Nat) (i : Nat) (o : List Nat) : Prop where
  len : o.length = 6
  sm : small o
  zero : ∀ t, i + 3 ≤ t → o.getD t 0 = 0
  eq : nl o = nl (la.take i) * m
/-- within row i, before column j -/
structure Col (la lb : List Nat) (m : Nat) (i j cy : Nat) (o : List Nat) : Prop where
  len : o.length = 6
  sm : small o
  cs : cy < 4294967296
  zero : ∀ t, i + 3 ≤ t → o.getD t 0 = 0
  eq : nl o + 4294967296 ^ (i + j) * cy = nl (la.take i) * m + la.getD i 0 * (4294967296 ^ i * nl (lb.take j))
theorem Row.start (la : List Nat) (m : Nat) : Row la m 0 [0, 0, 0, 0, 0, 0] := by
  refine ⟨rfl, by intro d hd; simp at hd; omega, fun t _ => ?_, by simp [nl]⟩
  rcases t with _ | _ | _ | _ | _ | _ | t <;> simp [List.getD]
theorem Col.start {la lb : List Nat} {m i : Nat} {o : List Nat} (h : Row la m i o) : Col la lb m i 0 0 o := ⟨h.len, h.sm, by decide, h.zero, by rw [h.eq]; simp [nl]⟩
theorem Col.bound {la lb : List Nat} {m i j cy : Nat} {o : List Nat} (h : Col la lb m i j cy o) (sa : small la) (sb : small lb) : o.getD (i + j) 0 + la.getD i 0 * lb.getD j 0 + cy ≤ 18446744073709551615 := by
  have x := small_getD h.sm (i + j)
  have y := small_getD sa i
  have z := small_getD sb j
  have c := h.cs
  have hp : la.getD i 0 * lb.getD j 0 ≤ 4294967295 * 4294967295 := Nat.mul_le_mul (by omega) (by omega)
  omega
theorem Col.next {la lb : List Nat} {m i j cy : Nat} {o : List Nat} (h : Col la lb m i j cy o) (hb : lb.length = 6) (hi : i < 3) (hj : j < 3) (sa : small la) (sb : small lb) :
    Col la lb m i (j + 1) ((o.getD (i + j) 0 + la.getD i 0 * lb.getD j 0 + cy) / 4294967296) (o.set (i + j) ((o.getD (i + j) 0 + la.getD i 0 * lb.getD j 0 + cy) % 4294967296)) := by
  have hbd := h.bound sa sb
  have hl := h.len
  refine ⟨by simp [hl], small_set h.sm _ (Nat.mod_lt _ (by decide)), ?_, fun t ht => ?_, ?_⟩
  · generalize o.getD (i + j) 0 + la.getD i 0 * lb.getD j 0 + cy = q at *
    omega
  · have := h.zero t ht
    simp [List.getD, List.getElem?_set, show ¬ i + j = t by omega] at this ⊢
    exact this
  · have hs := nl_set (l := o) (k := i + j) (v := (o.getD (i + j) 0 + la.getD i 0 * lb.getD j 0 + cy) % 4294967296) (by omega)
    have e := h.eq
    have hd := Nat.div_add_mod (o.getD (i + j) 0 + la.getD i 0 * lb.getD j 0 + cy) 4294967296
    rw [nl_take (by omega), Nat.mul_add, Nat.mul_add]
    rw [show i + (j + 1) = (i + j) + 1 by omega, Nat.pow_succ]
    have e3 : la.getD i 0 * (4294967296 ^ i * (4294967296 ^ j * lb.getD j 0)) = 4294967296 ^ (i + j) * (la.getD i 0 * lb.getD j 0) := by
      rw [Nat.pow_add]; simp only [Nat.mul_assoc, Nat.mul_left_comm, Nat.mul_comm]
    rw [e3]
    generalize la.getD i 0 * lb.getD j 0 = ab at *
    generalize o.getD (i + j) 0 = ov at *
    generalize (ov + ab + cy) / 4294967296 = dv at *
    generalize (ov + ab + cy) % 4294967296 = mv at *
    generalize 4294967296 ^ (i + j) = B at *
    have e4 : B * mv + B * 4294967296 * dv = B * ov + B * ab + B * cy := by
      rw [Nat.mul_assoc, ← Nat.mul_add, Nat.add_comm, hd, Nat.mul_add, Nat.mul_add]
    generalize nl (o.set (i + j) mv) = N at *
    generalize nl (la.take i) * m = P at *
    generalize la.getD i 0 * (4294967296 ^ i * nl (lb.take j)) = Q at *
    omega
theorem Col.done {la lb : List Nat} {i cy : Nat} {o : List Nat} (h : Col la lb (nl (lb.take 3)) i 3 cy o) (ha : la.length = 6) (hi : i < 3) : Row la (nl (lb.take 3)) (i + 1) (o.set (i + 3) cy) := by
  have hl := h.len
  refine ⟨by simp [hl], small_set h.sm _ h.cs, fun t ht => ?_, ?_⟩
  · have := h.zero t (by omega)
    simp [List.getD, List.getElem?_set, show ¬ i + 3 = t by omega] at this ⊢
    exact this
  · have hs := nl_set (l := o) (k := i + 3) (v := cy) (by omega)
    rw [h.zero (i + 3) (Nat.le_refl _), Nat.mul_zero, Nat.add_zero] at hs
    rw [hs, h.eq, nl_take (l := la) (k := i) (by omega), Nat.add_mul]
    have e3 : la.getD i 0 * (4294967296 ^ i * nl (lb.take 3)) = 4294967296 ^ i * la.getD i 0 * nl (lb.take 3) := by
      rw [Nat.mul_left_comm, Nat.mul_assoc]
    rw [e3]

/-- the memory of Times -/
structure TM (w : World) (la lb o : List Nat) (q : Bool) (wr : World) : Prop where
  a : Arr w.heap.size 1 la wr
  b : Arr (w.heap.size + 1) 1 lb wr
  o : Arr (w.heap.size + 1 + 1 + 1) 1 o wr
  q : wr.cell? ⟨w.heap.size + 1 + 1 + 1, 0, none⟩ = some (.bool q)
  r : RS w wr
  bel : Below w.heap.size w wr
theorem TM.drewN {w wr : World} {la lb o : List Nat} {q : Bool} (h : TM w la lb o q wr) (n : Nat) : TM w la lb o q (wr.drewN n) := ⟨h.a.drewN n, h.b.drewN n, h.o.drewN n, h.q, h.r, below_drewN h.bel n⟩
theorem RS.far {w W : World} (h : RS w W) {k : Nat} {v : Value} : RS w (W.setCell ⟨w.heap.size + 1 + 1 + 1, k, none⟩ v) := by
  obtain ⟨r0, r1, r2, r3, r4, r5, r6, f0, f1, f2, f3, f4, f5, f6, hz⟩ := h
  exact ⟨by rw [cell_far (by simp)]; exact r0, by rw [cell_far (by simp)]; exact r1, by rw [cell_far (by simp)]; exact r2, by rw [cell_far (by simp)]; exact r3, by rw [cell_far (by simp)]; exact r4, by rw [cell_far (by simp)]; exact r5, by rw [cell_far (by simp)]; exact r6, by rw [World.frozen?_setCell]; exact f0, by rw [World.frozen?_setCell]; exact f1, by rw [World.frozen?_setCell]; exact f2, by rw [World.frozen?_setCell]; exact f3, by rw [World.frozen?_setCell]; exact f4, by rw [World.frozen?_setCell]; exact f5, by rw [World.frozen?_setCell]; exact f6, by rw [heap_setCell]; exact hz⟩
theorem TM.set {w wr : World} {la lb o : List Nat} {q : Bool} (h : TM w la lb o q wr) {k : Nat} (hk : k < o.length) {n : Int} {v : Nat} (hv : n = (v : Int)) : TM w la lb (o.set k v) q (wr.setCell ⟨w.heap.size + 1 + 1 + 1, 1 + k, none⟩ (.int .u64 n)) :=
  ⟨h.a.far (fun i _ => by simp) _, h.b.far (fun i _ => by simp) _, h.o.set hk hv, by rw [cell_far (by simp)]; exact h.q, h.r.far, h.bel.setCell (by simp; omega) _⟩
theorem Arr.new7 (w : World) (q : Bool) (c0 c1 c2 c3 c4 c5 : Nat) (t : TypeId) : Arr w.heap.size 1 [c0, c1, c2, c3, c4, c5] (w.alloc (.cells #[.bool q, .int .u64 (c0 : Int), .int .u64 (c1 : Int), .int .u64 (c2 : Int), .int .u64 (c3 : Int), .int .u64 (c4 : Int), .int .u64 (c5 : Int)] t)) := by
  refine ⟨fun i hi => ?_, fun i hi => by simp [go_sem], by simp⟩
  simp at hi
  match i, hi with
  | 0, _ => simp [go_sem]
  | 1, _ => simp [go_sem]
  | 2, _ => simp [go_sem]
  | 3, _ => simp [go_sem]
  | 4, _ => simp [go_sem]
  | 5, _ => simp [go_sem]
theorem TM.start (w : World) (s r : Bool) (a0 a1 a2 a3 a4 a5 b0 b1 b2 b3 b4 b5 : Nat) : TM w [a0, a1, a2, a3, a4, a5] [b0, b1, b2, b3, b4, b5] [0, 0, 0, 0, 0, 0] (s != r) ((((w.alloc (.cells #[.bool s, .int .u64 (a0 : Int), .int .u64 (a1 : Int), .int .u64 (a2 : Int), .int .u64 (a3 : Int), .int .u64 (a4 : Int), .int .u64 (a5 : Int)] 86)).alloc (.cells #[.bool r, .int .u64 (b0 : Int), .int .u64 (b1 : Int), .int .u64 (b2 : Int), .int .u64 (b3 : Int), .int .u64 (b4 : Int), .int .u64 (b5 : Int)] 86)).alloc (.cells #[.bool false, .int .u64 0, .int .u64 0, .int .u64 0, .int .u64 0, .int .u64 0, .int .u64 0] 86)).alloc (.cells #[.bool (s != r), .int .u64 ((0 : Nat) : Int), .int .u64 ((0 : Nat) : Int), .int .u64 ((0 : Nat) : Int), .int .u64 ((0 : Nat) : Int), .int .u64 ((0 : Nat) : Int), .int .u64 ((0 : Nat) : Int)] 86)) := by
  have x1 := Arr.new7 w s a0 a1 a2 a3 a4 a5 86
  have x2 := Arr.new7 (w.alloc (.cells #[.bool s, .int .u64 (a0 : Int), .int .u64 (a1 : Int), .int .u64 (a2 : Int), .int .u64 (a3 : Int), .int .u64 (a4 : Int), .int .u64 (a5 : Int)] 86)) r b0 b1 b2 b3 b4 b5 86
  have x4 := Arr.new7 (((w.alloc (.cells #[.bool s, .int .u64 (a0 : Int), .int .u64 (a1 : Int), .int .u64 (a2 : Int), .int .u64 (a3 : Int), .int .u64 (a4 : Int), .int .u64 (a5 : Int)] 86)).alloc (.cells #[.bool r, .int .u64 (b0 : Int), .int .u64 (b1 : Int), .int .u64 (b2 : Int), .int .u64 (b3 : Int), .int .u64 (b4 : Int), .int .u64 (b5 : Int)] 86)).alloc (.cells #[.bool false, .int .u64 0, .int .u64 0, .int .u64 0, .int .u64 0, .int .u64 0, .int .u64 0] 86)) (s != r) 0 0 0 0 0 0 86
  rw [show (w.alloc (.cells #[.bool s, .int .u64 (a0 : Int), .int .u64 (a1 : Int), .int .u64 (a2 : Int), .int .u64 (a3 : Int), .int .u64 (a4 : Int), .int .u64 (a5 : Int)] 86)).heap.size = w.heap.size + 1 by simp] at x2
  have e4 : (((w.alloc (.cells #[.bool s, .int .u64 (a0 : Int), .int .u64 (a1 : Int), .int .u64 (a2 : Int), .int .u64 (a3 : Int), .int .u64 (a4 : Int), .int .u64 (a5 : Int)] 86)).alloc (.cells #[.bool r, .int .u64 (b0 : Int), .int .u64 (b1 : Int), .int .u64 (b2 : Int), .int .u64 (b3 : Int), .int .u64 (b4 : Int), .int .u64 (b5 : Int)] 86)).alloc (.cells #[.bool false, .int .u64 0, .int .u64 0, .int .u64 0, .int .u64 0, .int .u64 0, .int .u64 0] 86)).heap.size = w.heap.size + 1 + 1 + 1 := by simp
  rw [e4] at x4
  refine ⟨((x1.alloc _ _).alloc _ _).alloc _ _, (x2.alloc _ _).alloc _ _, x4, by simp [go_sem], (RS.start w s a0 a1 a2 a3 a4 a5 r b0 b1 b2 b3 b4 b5).keep ((Below.refl _ _).alloc (Nat.le_refl _) _), ?_⟩
  exact ((((Below.refl w.heap.size w).alloc (Nat.le_refl _) _).alloc (by simp) _).alloc (by simp; omega) _).alloc (by simp; omega) _

theorem vz_mul (s r : Bool) (m k : Nat) : vz (s != r) (m * k) = vz s m * vz r k := by
  cases s <;> cases r <;> simp [vz, Int.neg_mul, Int.mul_neg]
theorem high_zero {c0 c1 c2 c3 c4 c5 : Nat} (h : Dig c0 c1 c2 c3 c4 c5) (hz : n6 c0 c1 c2 c3 c4 c5 < 79228162514264337593543950336) : nl ([c0, c1, c2, c3, c4, c5].take 3) = n6 c0 c1 c2 c3 c4 c5 := by
  obtain ⟨h0, h1, h2, h3, h4, h5⟩ := h
  simp [nl]
  unfold n6 at *
  omega
set_option maxRecDepth 100000 in
set_option maxHeartbeats 2000000 in
theorem times_ (z1 z2 : Int) (s r : Bool) (a0 a1 a2 a3 a4 a5 b0 b1 b2 b3 b4 b5 : Nat) (h1 : Rep z1 s a0 a1 a2 a3 a4 a5) (h2 : Rep z2 r b0 b1 b2 b3 b4 b5) (hz1 : z1.natAbs < 79228162514264337593543950336) (hz2 : z2.natAbs < 79228162514264337593543950336) (w : World) :
    Calls Try.prog 53 #[.agg #[.bool s, .int .u64 (a0 : Int), .int .u64 (a1 : Int), .int .u64 (a2 : Int), .int .u64 (a3 : Int), .int .u64 (a4 : Int), .int .u64 (a5 : Int)], .agg #[.bool r, .int .u64 (b0 : Int), .int .u64 (b1 : Int), .int .u64 (b2 : Int), .int .u64 (b3 : Int), .int .u64 (b4 : Int), .int .u64 (b5 : Int)]] w (WPost (z1 * z2) w) := by
  have SA := hide (small_six.2 h1.1)
  have SB := hide (small_six.2 h2.1)
  have RES : Hid (∀ o : List Nat, Row [a0, a1, a2, a3, a4, a5] (nl ([b0, b1, b2, b3, b4, b5].take 3)) 3 o → z1 * z2 = vz (s != r) (nl o)) := by
    intro o ho
    obtain ⟨d1, rfl⟩ := h1
    obtain ⟨d2, rfl⟩ := h2
    rw [vz_abs] at hz1 hz2
    rw [ho.eq, high_zero d1 hz1, high_zero d2 hz2, vz_mul]
  have T0 := hide (TM.start w s r a0 a1 a2 a3 a4 a5 b0 b1 b2 b3 b4 b5)
  clear h1 h2 hz1 hz2
  go_enter Try.func53, Try.ntmps53
  go_wp2_with fail
  go_loopw [6] (fun i wr => ∃ (k : Nat) (o : List Nat), k ≤ 3 ∧ i = .int .i64 k ∧ Hid (Row [a0, a1, a2, a3, a4, a5] (nl ([b0, b1, b2, b3, b4, b5].take 3)) k o) ∧ Hid (TM w [a0, a1, a2, a3, a4, a5] [b0, b1, b2, b3, b4, b5] o (s != r) wr)) (fun i _ => 3 - (intOf i).toNat)
  case atStart => exact ⟨0, [0, 0, 0, 0, 0, 0], by omega, rfl, Row.start _ _, T0⟩
  case round =>
    obtain ⟨k, o, hk, rfl, hI, hM⟩ := hrel
    clear T0
    by_cases hlt : k < 3
    · have ki : (k : Int) < 3 := by omega
      obtain ⟨wo, hwo⟩ : ∃ wo : World, wo = wr := ⟨_, rfl⟩
      rw [← hwo] at hM ⊢
      clear hwo
      go_wp2_with fail
      go_loopw [7, 8] (fun c j wx => ∃ (m cy : Nat) (p : List Nat), m ≤ 3 ∧ j = .int .i64 m ∧ c = .int .u64 cy ∧ Hid (Col [a0, a1, a2, a3, a4, a5] [b0, b1, b2, b3, b4, b5] (nl ([b0, b1, b2, b3, b4, b5].take 3)) k m cy p) ∧ Hid (TM w [a0, a1, a2, a3, a4, a5] [b0, b1, b2, b3, b4, b5] p (s != r) wx)) (fun _ j _ => 3 - (intOf j).toNat)
      case atStart => exact ⟨0, 0, o, by omega, rfl, rfl, Col.start hI.out, hM⟩
      case round =>
        obtain ⟨m, cy, p, hm, rfl, rfl, hC, hT⟩ := hrel
        clear hI hM
        by_cases hlt2 : m < 3
        · have mi : (m : Int) < 3 := by omega
          have ca := hT.out.a.cell k (by simp; omega)
          have cb := hT.out.b.cell m (by simp; omega)
          have co := hT.out.o.cell (k + m) (by rw [hC.out.len]; omega)
          have fo := hT.out.o.free (k + m) (by rw [hC.out.len]; omega)
          have hpl := hC.out.len
          have bd := hC.out.bound SA.out SB.out
          have NX := hide (hC.out.next rfl hlt hlt2 SA.out SB.out)
          have x0 := small_getD SA.out k
          have y0 := small_getD SB.out m
          generalize List.getD [a0, a1, a2, a3, a4, a5] k 0 = x at *
          generalize List.getD [b0, b1, b2, b3, b4, b5] m 0 = y at *
          generalize p.getD (k + m) 0 = v at *
          have ep : IntKind.u64.wrap ((x : Int) * (y : Int)) = ((x * y : Nat) : Int) := by
            rw [← Int.natCast_mul]; exact uw_in (by omega)
          generalize x * y = xy at *
          have e1 : IntKind.u64.wrap ((v : Int) + (xy : Int)) = (v : Int) + (xy : Int) := by rw [IntKind.wrap_u64]; omega
          have e2 : IntKind.u64.wrap ((v : Int) + (xy : Int) + (cy : Int)) = ((v + xy + cy : Nat) : Int) := by rw [IntKind.wrap_u64]; omega
          have BD := hide bd
          have PL := hide hpl
          clear bd hpl x0 y0
          generalize v + xy + cy = t at *
          go_wp2_with fail
          go_quiet (fail)
          clear e1 e2 ep
          have bd : (t : Int) ≤ 18446744073709551615 := by have := BD.out; omega
          go_wp2_with fail
          go_roundw
          case rel => exact ⟨m + 1, t / 4294967296, p.set (k + m) (t % 4294967296), by omega, by go_num, congrArg (Value.int .u64) (by omega), NX, (hT.out.drewN nq).set (by rw [PL.out]; omega) (by omega)⟩
          case measure => simp only [intOf]; omega
        · have hme : m = 3 := by omega
          subst hme
          have co := hT.out.o.cell (k + 3) (by rw [hC.out.len]; omega)
          have fo := hT.out.o.free (k + 3) (by rw [hC.out.len]; omega)
          have NX := hide (hC.out.done rfl hlt)
          have PL := hide hC.out.len
          go_wp2_with fail
          go_roundw
          case rel => exact ⟨k + 1, p.set (k + 3) cy, by omega, by go_num, NX, hT.out.set (by rw [PL.out]; omega) rfl⟩
          case measure => simp only [intOf]; omega
    · have hke : k = 3 := by omega
      subst hke
      have RZ := hide (RES.out o hI.out)
      have hol := hI.out.len
      have SM := hide hI.out.sm
      obtain ⟨d0, d1, d2, d3, d4, d5, rfl⟩ := six hol
      have DG := hide (small_six.1 SM.out)
      rw [nl_six] at RZ
      have o0 := hM.out.o.cell 0 (by simp)
      have o1 := hM.out.o.cell 1 (by simp)
      have o2 := hM.out.o.cell 2 (by simp)
      have o3 := hM.out.o.cell 3 (by simp)
      have o4 := hM.out.o.cell 4 (by simp)
      have o5 := hM.out.o.cell 5 (by simp)
      simp only [Nat.reduceAdd, Nat.add_zero, List.getD_cons_zero, List.getD_cons_succ] at o0 o1 o2 o3 o4 o5
      have oq := hM.out.q
      obtain ⟨r0, r1, r2, r3, r4, r5, r6, f0, f1, f2, f3, f4, f5, f6, hz3⟩ := hM.out.r
      have bel := hM.out.bel
      clear hol SM hI SA SB RES
      generalize (s != r) = sg at *
      go_wp2_with fail
      refine bodyPost_ret (v := .agg #[.bool sg, .int .u64 (d0 : Int), .int .u64 (d1 : Int), .int .u64 (d2 : Int), .int .u64 (d3 : Int), .int .u64 (d4 : Int), .int .u64 (d5 : Int)]) (by simp [results, Try.results53, go_sem, r0, r1, r2, r3, r4, r5, r6]) rfl ⟨_, _, _, _, _, _, _, rfl, ⟨DG.out, RZ.out⟩, ?_⟩
      exact ((((((bel.setCell (by simp; omega) _).setCell (by simp; omega) _).setCell (by simp; omega) _).setCell (by simp; omega) _).setCell (by simp; omega) _).setCell (by simp; omega) _).setCell (by simp; omega) _

theorem abs96 {x : Int} (h : I64 x) : x.natAbs < 79228162514264337593543950336 := by unfold I64 at h; omega
end Go.Proofs.Ytenoalfjobghnaa
