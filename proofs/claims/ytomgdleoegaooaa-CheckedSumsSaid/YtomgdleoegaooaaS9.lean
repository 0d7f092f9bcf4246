/- The specification's Sum. -/
import Derived.Test.YtomgdleoegaooaaG2
import Derived.Deep.RegionHeld3
import Derived.Deep.RegionLaw
set_option linter.unusedVariables false
set_option linter.unusedSimpArgs false
namespace Go.Proofs.Ytomgdleoegaooaa
open Go.RowKit

/-- the running total of the specification, in a block of the call's own -/
def TW (w : World) (s : Bool) (c0 c1 c2 c3 c4 c5 : Nat) (wr : World) : Prop := wr.cell? ⟨w.heap.size, 0, none⟩ = some (.bool s) ∧ wr.cell? ⟨w.heap.size, 1, none⟩ = some (.int .u64 (c0 : Int)) ∧ wr.cell? ⟨w.heap.size, 2, none⟩ = some (.int .u64 (c1 : Int)) ∧ wr.cell? ⟨w.heap.size, 3, none⟩ = some (.int .u64 (c2 : Int)) ∧ wr.cell? ⟨w.heap.size, 4, none⟩ = some (.int .u64 (c3 : Int)) ∧ wr.cell? ⟨w.heap.size, 5, none⟩ = some (.int .u64 (c4 : Int)) ∧ wr.cell? ⟨w.heap.size, 6, none⟩ = some (.int .u64 (c5 : Int)) ∧ wr.frozen? ⟨w.heap.size, 0, none⟩ = false ∧ wr.frozen? ⟨w.heap.size, 1, none⟩ = false ∧ wr.frozen? ⟨w.heap.size, 2, none⟩ = false ∧ wr.frozen? ⟨w.heap.size, 3, none⟩ = false ∧ wr.frozen? ⟨w.heap.size, 4, none⟩ = false ∧ wr.frozen? ⟨w.heap.size, 5, none⟩ = false ∧ wr.frozen? ⟨w.heap.size, 6, none⟩ = false ∧ Below w.heap.size w wr ∧ w.heap.size < wr.heap.size
theorem TW.start (w : World) : TW w false 0 0 0 0 0 0 (w.alloc (.cells #[.bool false, .int .u64 0, .int .u64 0, .int .u64 0, .int .u64 0, .int .u64 0, .int .u64 0] 46)) := by
  refine ⟨?_, ?_, ?_, ?_, ?_, ?_, ?_, ?_, ?_, ?_, ?_, ?_, ?_, ?_, ?_, ?_⟩
  all_goals first | (simp [go_sem]; done) | (exact (Below.refl _ _).alloc (Nat.le_refl _) _)
theorem TW.keep {w : World} {s : Bool} {c0 c1 c2 c3 c4 c5 : Nat} {V V' : World} (b : Below V.heap.size V V') (h : TW w s c0 c1 c2 c3 c4 c5 V) : TW w s c0 c1 c2 c3 c4 c5 V' := by
  obtain ⟨h0, h1, h2, h3, h4, h5, h6, f0, f1, f2, f3, f4, f5, f6, bb, hz⟩ := h
  have k := (bcell b).1
  have g := (bcell b).2
  exact ⟨by rw [k _ _ hz]; exact h0, by rw [k _ _ hz]; exact h1, by rw [k _ _ hz]; exact h2, by rw [k _ _ hz]; exact h3, by rw [k _ _ hz]; exact h4, by rw [k _ _ hz]; exact h5, by rw [k _ _ hz]; exact h6, by rw [g _ _ hz]; exact f0, by rw [g _ _ hz]; exact f1, by rw [g _ _ hz]; exact f2, by rw [g _ _ hz]; exact f3, by rw [g _ _ hz]; exact f4, by rw [g _ _ hz]; exact f5, by rw [g _ _ hz]; exact f6, bb.trans (b.mono bb.size), by have := b.size; omega⟩
theorem TW.drew {w : World} {s : Bool} {c0 c1 c2 c3 c4 c5 : Nat} {V : World} (h : TW w s c0 c1 c2 c3 c4 c5 V) : TW w s c0 c1 c2 c3 c4 c5 V.drew := by
  obtain ⟨h0, h1, h2, h3, h4, h5, h6, f0, f1, f2, f3, f4, f5, f6, bb, hz⟩ := h
  exact ⟨h0, h1, h2, h3, h4, h5, h6, f0, f1, f2, f3, f4, f5, f6, bb.drew, hz⟩
theorem TW.set {w : World} {s : Bool} {c0 c1 c2 c3 c4 c5 : Nat} {w2 : World} (r : Bool) (d0 d1 d2 d3 d4 d5 : Nat) (h : TW w s c0 c1 c2 c3 c4 c5 w2) : TW w r d0 d1 d2 d3 d4 d5 (World.setCell (World.setCell (World.setCell (World.setCell (World.setCell (World.setCell (World.setCell w2 ⟨w.heap.size, 0, none⟩ (.bool r)) ⟨w.heap.size, 1, none⟩ (.int .u64 (d0 : Int))) ⟨w.heap.size, 2, none⟩ (.int .u64 (d1 : Int))) ⟨w.heap.size, 3, none⟩ (.int .u64 (d2 : Int))) ⟨w.heap.size, 4, none⟩ (.int .u64 (d3 : Int))) ⟨w.heap.size, 5, none⟩ (.int .u64 (d4 : Int))) ⟨w.heap.size, 6, none⟩ (.int .u64 (d5 : Int))) := by
  obtain ⟨h0, h1, h2, h3, h4, h5, h6, f0, f1, f2, f3, f4, f5, f6, bb, hz⟩ := h
  refine ⟨?_, ?_, ?_, ?_, ?_, ?_, ?_, ?_, ?_, ?_, ?_, ?_, ?_, ?_, (((((((bb.setCell (Nat.le_refl _) _).setCell (Nat.le_refl _) _).setCell (Nat.le_refl _) _).setCell (Nat.le_refl _) _).setCell (Nat.le_refl _) _).setCell (Nat.le_refl _) _).setCell (Nat.le_refl _) _), ?_⟩
  all_goals first | (simp [go_sem, h0, h1, h2, h3, h4, h5, h6, f0, f1, f2, f3, f4, f5, f6]; done) | (simp [World.setCell]; omega)
theorem pow_tot {zs : List Int} (h : allI zs) (hl : zs.length ≤ 1099511627776) (k : Nat) (hk : k < zs.length) : (lsum (zs.take k)).natAbs + (zs.getD k 0).natAbs < 4294967296 ^ 6 := by
  have a := lsum_bd (l := zs.take k) (fun x hx => h x (List.mem_of_mem_take hx))
  have b := i64_abs (allI_getD h k hk)
  have c : (zs.take k).length ≤ 1099511627776 := by simp; omega
  have d : 9223372036854775808 * 1099511627776 + 9223372036854775808 < 4294967296 ^ 6 := by decide
  omega
theorem rep0 : Rep 0 false 0 0 0 0 0 0 := by
  refine ⟨⟨by omega, by omega, by omega, by omega, by omega, by omega⟩, ?_⟩
  simp [vz, n6]
set_option maxRecDepth 100000 in
set_option maxHeartbeats 2000000 in
theorem ref_sum (a : Option Addr) (zs : List Int) (c : Nat) (w : World) (hz : Ints w a zs) (hi : allI zs) (hl : zs.length ≤ 1099511627776) :
    Calls Try.prog 21 #[.slice a zs.length c] w (FPost (lsum zs) w) := by
  have HZ := hide hz
  have HI := hide hi
  have HP := hide (pow_tot hi hl)
  clear hz hi
  go_enter Try.func21, Try.ntmps21
  go_wp2_with fail
  go_loopw [5] (fun i wr => ∃ (k : Nat) (s : Bool) (c0 c1 c2 c3 c4 c5 : Nat), k ≤ zs.length ∧ i = .int .i64 k ∧ Hid (Rep (lsum (zs.take k)) s c0 c1 c2 c3 c4 c5) ∧ Hid (TW w s c0 c1 c2 c3 c4 c5 wr)) (fun i _ => zs.length - (intOf i).toNat)
  case atStart => exact ⟨0, false, 0, 0, 0, 0, 0, 0, Nat.zero_le _, rfl, rep0, TW.start w⟩
  case round =>
    obtain ⟨k, s, c0, c1, c2, c3, c4, c5, hk, rfl, hr, ht⟩ := hrel
    by_cases hlt : k < zs.length
    · have hn := allI_getD HI.out k hlt
      have hsn := lsum_snoc zs k hlt
      have hcell : ∃ b off, a = some ⟨b, off, none⟩ ∧ b < w.heap.size ∧ wr.cell? ⟨b, off + k, none⟩ = some (.int .i64 (zs.getD k 0)) := by
        rcases HZ.out with h | ⟨b, off, h1, h2, h3⟩
        · rw [h] at hlt; simp at hlt
        · exact ⟨b, off, h1, h2, by rw [(bcell ht.out.2.2.2.2.2.2.2.2.2.2.2.2.2.2.1).1 _ _ h2]; exact h3 k hlt⟩
      have HSN := hide hsn
      have HPK := hide (HP.out k hlt)
      obtain ⟨b, off, rfl, hb, hc⟩ := hcell
      clear hsn
      generalize zs.getD k 0 = x at *
      have FR := hide (from_ x hn)
      have PL := hide (fun (r : Bool) (d0 d1 d2 d3 d4 d5 : Nat) (h : Rep x r d0 d1 d2 d3 d4 d5) => plus_ _ x s r c0 c1 c2 c3 c4 c5 d0 d1 d2 d3 d4 d5 hr.out h HPK.out)
      have HB := hide hb
      clear hn hb
      obtain ⟨t0, t1, t2, t3, t4, t5, t6, f0, f1, f2, f3, f4, f5, f6, bb, hsz⟩ := ht.out
      have BB := hide bb
      clear bb
      go_wp2_with fail
      go_region_law (first
        | (go_simp; go_at_call 31; refine (FR.out _).mono ?_; rintro e w1 ⟨r, d0, d1, d2, d3, d4, d5, rfl, hd, b1⟩; have HD := hide hd; have T1 := hide (ht.out.drew.keep b1); obtain ⟨x0, x1, x2, x3, x4, x5, x6, y0, y1, y2, y3, y4, y5, y6, xb, xz⟩ := T1.out; clear hd b1 xb)
        | (go_simp; go_at_call 30; refine (PL.out _ _ _ _ _ _ _ HD.out _).mono ?_; rintro e w2 ⟨q, g0, g1, g2, g3, g4, g5, rfl, hg, b2⟩; have HG := hide hg; have T2 := hide (T1.out.keep b2); obtain ⟨z0, z1, z2, z3, z4, z5, z6, v0, v1, v2, v3, v4, v5, v6, zb, zz⟩ := T2.out; clear hg b2 zb))
      all_goals (
        have TS := hide (T2.out.set q g0 g1 g2 g3 g4 g5)
        have HR : Hid (Rep (lsum (zs.take (k + 1))) q g0 g1 g2 g3 g4 g5) := by unfold Hid; rw [HSN.out]; exact HG.out
        clear t0 t1 t2 t3 t4 t5 t6 f0 f1 f2 f3 f4 f5 f6 x0 x1 x2 x3 x4 x5 x6 y0 y1 y2 y3 y4 y5 y6 hc
        go_wp2_with fail
        go_roundw)
      all_goals first
        | exact ⟨k + 1, q, g0, g1, g2, g3, g4, g5, by omega, by go_num, HR, TS⟩
        | (simp [intOf]; omega)
    · have hke : k = zs.length := by omega
      have HT : Hid (zs.take k = zs) := by unfold Hid; rw [hke]; simp
      rw [HT.out] at hr
      have FI := hide (fit (lsum zs) s c0 c1 c2 c3 c4 c5 hr.out)
      obtain ⟨t0, t1, t2, t3, t4, t5, t6, f0, f1, f2, f3, f4, f5, f6, bb, hsz⟩ := ht.out
      have BB := hide bb
      clear hke bb f0 f1 f2 f3 f4 f5 f6
      go_wp2_with fail
      refine (FI.out _).mono ?_
      rintro e w4 ⟨⟨h, rfl⟩ | ⟨h, rfl⟩, bz⟩
      · have H := hide h
        have bd := BB.out.trans (bz.mono BB.out.size)
        clear h bz
        go_wp2_with fail
        go_ret2
        exact ⟨.inl ⟨H.out, rfl⟩, bd⟩
      · have H := hide h
        have bd := BB.out.trans (bz.mono BB.out.size)
        clear h bz
        go_wp2_with fail
        go_ret2
        exact ⟨.inr ⟨H.out, rfl⟩, bd⟩
end Go.Proofs.Ytomgdleoegaooaa
