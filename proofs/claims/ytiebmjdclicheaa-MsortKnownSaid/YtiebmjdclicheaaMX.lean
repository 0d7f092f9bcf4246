/- Merge, both sides; three. -/
import Derived.Test.YtiebmjdclicheaaMV
set_option linter.unusedVariables false
set_option linter.unusedSimpArgs false
namespace Go.Proofs.Ytiebmjdclicheaa
open Go.RowKit

def mergeE (k : Int) (a b : List R4) : Int := if chk (a.length + b.length) k = 0 then (if inO k a = true ∧ inO k b = true then 0 else 8) else chk (a.length + b.length) k
def mergeA (k : Int) (a b : List R4) : List R4 := if mergeE k a b = 0 then (mrg (bef k) a b).1 else []
theorem HP.opt {p : Option Addr} {n c : Nat} (h : HP (.slice p n c)) : (p = none ∧ c = 0) ∨ ∃ b off, p = some ⟨b, off, none⟩ := by
  obtain ⟨p', n', c', he, h⟩ := h
  injection he with h1 h2 h3
  subst h1; subst h3
  exact h
set_option maxRecDepth 100000 in
set_option maxHeartbeats 8000000 in
theorem merge_h {w : World} {v u : Value} {a b : List R4} {k : Int} (ha : HR w v a) (hp : HP v) (hb : HR w u b) (hn : a.length + b.length ≤ 1000000) :
    Calls Try.prog 21 #[v, u, .int .i64 k] w fun e w' => ∃ v', e = .returned (.tuple #[v', .int .i64 (mergeE k a b)]) ∧ HR w' v' (mergeA k a b) ∧ HP v' ∧ Kp [] w w' := by
  obtain ⟨p, c, rfl, hc, hr⟩ := ha
  obtain ⟨q, d, rfl, hd, hs⟩ := hb
  have hp := hp.opt
  have CH := hide (check_t (a.length + b.length) k w)
  have wS : IntKind.i64.wrap ((a.length : Int) + (b.length : Int)) = ((a.length + b.length : Nat) : Int) := by rw [IntKind.wrap_i64]; omega
  by_cases h0 : chk (a.length + b.length) k = 0
  · obtain ⟨hk, hl⟩ := chk_zero h0
    have IA := hide (inOrder_t (c := c) (k := k) (show a.length ≤ 65536 by omega) hr)
    have IB := hide (fun W (kW : Kp [] w W) => inOrder_t (c := d) (k := k) (show b.length ≤ 65536 by omega) (hs.below kW))
    rw [h0] at CH
    by_cases hoa : inO k a = true
    · by_cases hob : inO k b = true
      · have E : mergeE k a b = 0 := by unfold mergeE; rw [if_pos h0, if_pos ⟨hoa, hob⟩]
        have A : mergeA k a b = (mrg (bef k) a b).1 := by unfold mergeA; rw [if_pos E]
        rw [E, A]
        rw [hoa] at IA
        rw [hob] at IB
        have RC := hide (records_t k)
        have MG := hide (fun (kb : Nat) (w1 : World) (hbb : w1.heap[kb]? = some (.cells #[.int .i64 k] 25 (0, 0))) (k1 : Kp [] w w1) =>
          mergeR_t (bf := bef k) (w := w1) (k := 44) (cap := #[.pointer (some ⟨kb, 0, none⟩)]) (cb := d) (hr.below k1) (hs.below k1) ⟨hc.1, hc.2, hp⟩ ⟨by omega, by omega⟩ enters_r (fun W kW x y _ _ => recs1_t y x k (kW.blk hbb (by simp))))
        have WL := hide (show (mrg (bef k) a b).1.length = a.length + b.length from mrg_len _ _ _)
        generalize a.length = n at *
        generalize b.length = m at *
        obtain ⟨s, hs'⟩ : ∃ s, s = n + m := ⟨_, rfl⟩
        rw [← hs'] at wS CH WL MG
        clear hk hl hc hd hr hs hp h0 hn hoa hob E A hs'
        go_enter Try.func21, Try.ntmps21
        go_wp2_with fail
        refine CH.out.mono ?_
        rintro e w' ⟨rfl, rfl⟩
        go_wp2_with fail
        refine IA.out.mono ?_
        rintro e w1 ⟨rfl, k1⟩
        have K1 := hide k1
        have IB1 := hide (IB.out _ k1)
        clear k1 IA IB CH
        go_wp2_with fail
        refine IB1.out.mono ?_
        rintro e w2 ⟨rfl, k2⟩
        have K2 := hide (K1.out.trans0 k2)
        clear k2 IB1
        go_wp2_with fail
        refine (RC.out _).mono ?_
        rintro e w3 ⟨kb, rfl, hb, k3⟩
        have K3 := hide (K2.out.trans0 k3)
        have M1 := hide (MG.out kb w3 hb K3.out)
        clear hb k3 MG RC
        go_wp2_with fail
        refine M1.out.mono ?_
        rintro e w4 ⟨v, rfl, r, k4⟩
        have R := hide (HR.row r)
        have K4 := hide (K3.out.trans0 k4)
        clear r k4
        go_wp2_with fail
        go_ret2
        exact ⟨_, rfl, R.out.1, R.out.2, K4.out⟩
      · have hob' : inO k b = false := by simpa using hob
        have E : mergeE k a b = 8 := by unfold mergeE; rw [if_pos h0, if_neg (by simp [hob'])]
        have A : mergeA k a b = [] := by unfold mergeA; rw [E]; rfl
        rw [E, A]
        rw [hoa] at IA
        rw [hob'] at IB
        generalize a.length = n at *
        generalize b.length = m at *
        obtain ⟨s, hs'⟩ : ∃ s, s = n + m := ⟨_, rfl⟩
        rw [← hs'] at wS CH
        clear hk hl hc hd hr hs hp h0 hn hoa hob hob' E A hs'
        go_enter Try.func21, Try.ntmps21
        go_wp2_with fail
        refine CH.out.mono ?_
        rintro e w' ⟨rfl, rfl⟩
        go_wp2_with fail
        refine IA.out.mono ?_
        rintro e w1 ⟨rfl, k1⟩
        have K1 := hide k1
        have IB1 := hide (IB.out _ k1)
        clear k1 IA IB CH
        go_wp2_with fail
        refine IB1.out.mono ?_
        rintro e w2 ⟨rfl, k2⟩
        have K2 := hide (K1.out.trans0 k2)
        clear k2 IB1
        go_wp2_with fail
        go_ret2
        exact ⟨.slice none 0 0, rfl, (HR.row (l := []) (World.ownsRow_nil w2 0 _ _)).1, (HR.row (l := []) (World.ownsRow_nil w2 0 _ _)).2, K2.out⟩
    · have hoa' : inO k a = false := by simpa using hoa
      have E : mergeE k a b = 8 := by unfold mergeE; rw [if_pos h0, if_neg (by simp [hoa'])]
      have A : mergeA k a b = [] := by unfold mergeA; rw [E]; rfl
      rw [E, A]
      rw [hoa'] at IA
      generalize a.length = n at *
      generalize b.length = m at *
      obtain ⟨s, hs'⟩ : ∃ s, s = n + m := ⟨_, rfl⟩
      rw [← hs'] at wS CH
      clear hk hl hc hd hr hs hp h0 hn hoa hoa' E A hs' IB
      go_enter Try.func21, Try.ntmps21
      go_wp2_with fail
      refine CH.out.mono ?_
      rintro e w' ⟨rfl, rfl⟩
      go_wp2_with fail
      refine IA.out.mono ?_
      rintro e w1 ⟨rfl, k1⟩
      have K1 := hide k1
      clear k1 IA CH
      go_wp2_with fail
      go_ret2
      exact ⟨.slice none 0 0, rfl, (HR.row (l := []) (World.ownsRow_nil w1 0 _ _)).1, (HR.row (l := []) (World.ownsRow_nil w1 0 _ _)).2, K1.out⟩
  · have E : mergeE k a b = chk (a.length + b.length) k := by unfold mergeE; rw [if_neg h0]
    have A : mergeA k a b = [] := by unfold mergeA; rw [E, if_neg h0]
    rw [E, A]
    have dz := neq0 h0
    generalize chk (a.length + b.length) k = z at *
    generalize a.length = n at *
    generalize b.length = m at *
    obtain ⟨s, hs'⟩ : ∃ s, s = n + m := ⟨_, rfl⟩
    rw [← hs'] at wS CH
    clear hc hd hr hs hp h0 hn E A hs'
    go_enter Try.func21, Try.ntmps21
    go_wp2_with fail
    refine CH.out.mono ?_
    rintro e w' ⟨rfl, rfl⟩
    go_wp2_with fail
    go_ret2
    exact ⟨.slice none 0 0, rfl, (HR.row (l := []) (World.ownsRow_nil w 0 _ _)).1, (HR.row (l := []) (World.ownsRow_nil w 0 _ _)).2, Kp.refl _ _⟩
set_option maxRecDepth 100000 in
set_option maxHeartbeats 8000000 in
theorem rmerge_h {w : World} {v u : Value} {a b : List R4} {k : Int} (ha : HR w v a) (hb : HR w u b) (hn : a.length + b.length ≤ 1000000) :
    Calls Try.prog 22 #[v, u, .int .i64 k] w fun e w' => ∃ v', e = .returned (.tuple #[v', .int .i64 (mergeE k a b)]) ∧ HR w' v' (mergeA k a b) ∧ HP v' ∧ Kp [] w w' := by
  have SA := hide (rsorted_h (k := k) ha)
  have SB := hide (fun W (kW : Kp [] w W) => rsorted_h (k := k) (hb.keep kW))
  have HA := hide ha
  have HB := hide hb
  obtain ⟨p, c, rfl, hc, hr⟩ := ha
  obtain ⟨q, d, rfl, hd, hs⟩ := hb
  have CH := hide (rcheck_t (a.length + b.length) k w)
  have wS : IntKind.i64.wrap ((a.length : Int) + (b.length : Int)) = ((a.length + b.length : Nat) : Int) := by rw [IntKind.wrap_i64]; omega
  have HN := hide hn
  by_cases h0 : chk (a.length + b.length) k = 0
  · obtain ⟨hk, hl⟩ := chk_zero h0
    rw [h0] at CH
    have ca : chk a.length k = 0 := chk_ok hk (by omega)
    have cb : chk b.length k = 0 := chk_ok hk (by omega)
    rw [ca] at SA
    rw [cb] at SB
    rw [show sorE k a = inO k a by unfold sorE; rw [if_pos ca]] at SA
    rw [show sorE k b = inO k b by unfold sorE; rw [if_pos cb]] at SB
    by_cases hob : inO k a = true ∧ inO k b = true
    · have E : mergeE k a b = 0 := by unfold mergeE; rw [if_pos h0, if_pos hob]
      have A : mergeA k a b = sortA k (a ++ b) := by
        unfold mergeA
        rw [if_pos E, sortA_ok (by rw [List.length_append]; exact h0)]
        exact mrg_ord (bef_weak k) (inO_iff.1 hob.1) (inO_iff.1 hob.2)
      rw [E, A]
      rw [hob.1] at SA
      rw [hob.2] at SB
      have CC := hide (show chk (a ++ b).length k = 0 by rw [List.length_append]; exact h0)
      obtain ⟨n, hnn⟩ : ∃ n, n = a.length := ⟨_, rfl⟩
      obtain ⟨m, hmm⟩ : ∃ n, n = b.length := ⟨_, rfl⟩
      rw [← hnn] at SA HA wS CH ⊢
      rw [← hmm] at SB HB wS CH ⊢
      obtain ⟨s, hs'⟩ : ∃ s, s = n + m := ⟨_, rfl⟩
      rw [← hs'] at wS CH
      clear hk hl hc hd hr hs h0 hn hob E A hs' hnn hmm ca cb
      go_enter Try.func22, Try.ntmps22
      go_wp2_with fail
      refine CH.out.mono ?_
      rintro e w' ⟨rfl, rfl⟩
      go_wp2_with fail
      refine SA.out.mono ?_
      rintro e w1 ⟨rfl, k1⟩
      have K1 := hide k1
      have SB1 := hide (SB.out _ k1)
      clear k1 SA SB CH
      go_wp2_with fail
      refine SB1.out.mono ?_
      rintro e w2 ⟨rfl, k2⟩
      have K2 := hide (K1.out.trans0 k2)
      have HSZ := hide K2.out.size
      have HA2 := hide (HA.out.keep K2.out)
      clear k2 SB1
      go_wp2_with (refine wpList_app rfl _ _ rfl w.heap.size (.slice none 0 0) (.slice p n c) [] a rfl rfl (World.ownsRow_nil _ _ _ _) HA2.out (by have := HN.out; simp; omega) HSZ.out ?_)
      intro v3 w3 r3 g3
      try rw [List.nil_append] at r3
      have R3 := hide r3
      have K3 := hide (K2.out.grown g3 (fun x hx => by simp [Value.ownBlock] at hx))
      have HSZ3 := hide K3.out.size
      have HB3 := hide (HB.out.keep K3.out)
      clear r3 g3
      go_wp2_with (refine wpList_app rfl _ _ rfl w.heap.size v3 (.slice q m d) a b rfl rfl R3.out HB3.out HN.out HSZ3.out ?_)
      intro v4 w4 r4 g4
      have R4 := hide (HR.row r4)
      have K4 := hide (K3.out.grown g4 (fun x hx => (R3.out.lt x hx).1))
      have SO := hide (rsort_h (k := k) R4.out.1)
      rw [CC.out] at SO
      clear r4 g4
      go_wp2_with fail
      refine SO.out.mono ?_
      rintro e w5 ⟨v5, rfl, h5, p5, k5⟩
      have R := hide (And.intro h5 p5)
      have K5 := hide (K4.out.trans0 k5)
      clear h5 p5 k5
      go_wp2_with fail
      go_ret2
      exact ⟨_, rfl, R.out.1, R.out.2, K5.out⟩
    · have E : mergeE k a b = 8 := by unfold mergeE; rw [if_pos h0, if_neg hob]
      have A : mergeA k a b = [] := by unfold mergeA; rw [E]; rfl
      rw [E, A]
      obtain ⟨x, hx⟩ : ∃ x, x = inO k a := ⟨_, rfl⟩
      obtain ⟨y, hy⟩ : ∃ x, x = inO k b := ⟨_, rfl⟩
      rw [← hx] at SA hob
      rw [← hy] at SB hob
      generalize a.length = n at *
      generalize b.length = m at *
      obtain ⟨s, hs'⟩ : ∃ s, s = n + m := ⟨_, rfl⟩
      rw [← hs'] at wS CH
      clear hk hl hc hd hr hs h0 hn E A hs' hx hy HA HB ca cb
      have hxy : (x = false ∧ y = true) ∨ (x = false ∧ y = false) ∨ (x = true ∧ y = false) := by cases x <;> cases y <;> simp_all
      clear hob
      rcases hxy with ⟨rfl, rfl⟩ | ⟨rfl, rfl⟩ | ⟨rfl, rfl⟩
      all_goals
        go_enter Try.func22, Try.ntmps22
        go_wp2_with fail
        refine CH.out.mono ?_
        rintro e w' ⟨rfl, rfl⟩
        go_wp2_with fail
        refine SA.out.mono ?_
        rintro e w1 ⟨rfl, k1⟩
        have K1 := hide k1
        have SB1 := hide (SB.out _ k1)
        clear k1 SA SB CH
        go_wp2_with fail
        refine SB1.out.mono ?_
        rintro e w2 ⟨rfl, k2⟩
        have K2 := hide (K1.out.trans0 k2)
        clear k2 SB1
        go_wp2_with fail
        go_ret2
        exact ⟨.slice none 0 0, rfl, (HR.row (l := []) (World.ownsRow_nil w2 0 _ _)).1, (HR.row (l := []) (World.ownsRow_nil w2 0 _ _)).2, K2.out⟩
  · have E : mergeE k a b = chk (a.length + b.length) k := by unfold mergeE; rw [if_neg h0]
    have A : mergeA k a b = [] := by unfold mergeA; rw [E, if_neg h0]
    rw [E, A]
    have dz := neq0 h0
    generalize chk (a.length + b.length) k = z at *
    generalize a.length = n at *
    generalize b.length = m at *
    obtain ⟨s, hs'⟩ : ∃ s, s = n + m := ⟨_, rfl⟩
    rw [← hs'] at wS CH
    clear hc hd hr hs h0 hn E A hs' SA SB HA HB HN
    go_enter Try.func22, Try.ntmps22
    go_wp2_with fail
    refine CH.out.mono ?_
    rintro e w' ⟨rfl, rfl⟩
    go_wp2_with fail
    go_ret2
    exact ⟨.slice none 0 0, rfl, (HR.row (l := []) (World.ownsRow_nil w 0 _ _)).1, (HR.row (l := []) (World.ownsRow_nil w 0 _ _)).2, Kp.refl _ _⟩
theorem three_t (n : Int) (h : 0 ≤ n ∧ n ≤ 255) (w : World) : Calls Try.prog 27 #[.int .u8 n] w fun e w' => (∃ k, KOK k ∧ e = .returned (.int .i64 k)) ∧ w = w' := by
  have h1 : n.tmod 3 = n % 3 := Int.tmod_eq_emod_of_nonneg h.1
  obtain ⟨m, hm⟩ : ∃ m, m = n % 3 := ⟨_, rfl⟩
  have hm3 : 0 ≤ m ∧ m ≤ 2 := by omega
  have r1 : n.tmod 3 = m := by rw [h1, hm]
  have r2 : n % 3 = m := hm.symm
  have wm : IntKind.u8.wrap m = m := by rw [IntKind.wrap_u8]; omega
  have wm1 : IntKind.u8.wrap (m + 1) = m + 1 := by rw [IntKind.wrap_u8]; omega
  have wm2 : IntKind.i64.wrap (m + 1) = m + 1 := by rw [IntKind.wrap_i64]; omega
  have HM := hide hm3
  clear h h1 hm hm3
  go_enter Try.func27, Try.ntmps27
  go_wp2_with fail
  go_ret
  exact ⟨⟨m + 1, by have := HM.out; unfold KOK; omega, rfl⟩, rfl⟩
end Go.Proofs.Ytiebmjdclicheaa
