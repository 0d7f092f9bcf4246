/- MsortMerges holds: merged lists, or the error, are those of the document; the records stay unchanged. -/
import Derived.Test.YtiebmjdclicheaaMX
import Derived.Test.YtiebmjdclicheaaOp
import Derived.Test.YtiebmjdclicheaaRows
import Derived.Deep.CutRange
import Derived.StillTailTactics
set_option linter.unusedVariables false
set_option linter.unusedSimpArgs false
namespace Go.Proofs.Ytiebmjdclicheaa
open Go.RowKit
theorem chk_mono {n m : Nat} {k : Int} (h : chk n k = 0) (hm : m ≤ 65536) : chk m k = 0 := chk_ok (chk_zero h).1 hm
theorem sortA_le (k : Int) (l : List R4) : (sortA k l).length ≤ l.length := by
  by_cases h : chk l.length k = 0
  · rw [sortA_ok h, srt_len]; exact Nat.le_refl _
  · rw [sortA_no h]; exact Nat.zero_le _
theorem mergeA_le (k : Int) (a b : List R4) : (mergeA k a b).length ≤ a.length + b.length := by
  unfold mergeA
  split
  · rw [mrg_len]; exact Nat.le_refl _
  · exact Nat.zero_le _
namespace lawMerges
open Go.ChangeShapes Go.WideShapes Go.ChangeAt Go.RowKit Go.Joins
/-- from the point where the lists x and y have been chosen -/
def Tail (x y : List R4) : Prop := x.length ≤ 100 ∧ y.length ≤ 100
set_option maxRecDepth 100000 in
set_option maxHeartbeats 16000000 in
theorem walk (s0 : Option Addr) (len0 cap0 : Nat) (V0 : Nat → Nat → Int) (s1 : Option Addr) (len1 cap1 : Nat) (V1 : Nat → Nat → Int) (k : Int) (sd : Bool) (w : World) (hc0 : len0 ≤ cap0 ∧ cap0 ≤ maxLen) (hr0 : RowsI w s0 [.u64, .u64, .i64, .i64] len0 V0) (hc1 : len1 ≤ cap1 ∧ cap1 ≤ maxLen) (hr1 : RowsI w s1 [.u64, .u64, .i64, .i64] len1 V1) (b2 : -9223372036854775808 ≤ k ∧ k ≤ 9223372036854775807) : Calls Try.prog 5 #[.slice s0 len0 cap0, .slice s1 len1 cap1, .int .i64 k, .bool sd] w fun e w' => e = .returned (.bool true) ∧ Below w.heap.size w w' := by
  have H0 := hide (hr_arg hc0 hr0)
  have H1 := hide (hr_arg hc1 hr1)
  have LN := hide (lR_len len0 V0)
  have LM := hide (lR_len len1 V1)
  by_cases h2 : 100 < len0
  · have d : decide ((100 : Int) < (len0 : Int)) = true := by simp; omega
    clear hc0 hr0 hc1 hr1 b2 h2
    go_enter Try.func5, Try.ntmps5
    go_wp2_with fail
    go_ret
    exact ⟨rfl, Below.refl _ _⟩
  by_cases h3 : 100 < len1
  · have d : decide ((100 : Int) < (len0 : Int)) = false := by simp; omega
    have d1 : decide ((100 : Int) < (len1 : Int)) = true := by simp; omega
    clear hc0 hr0 hc1 hr1 b2 h2 h3
    go_enter Try.func5, Try.ntmps5
    go_wp2_with fail
    go_ret
    exact ⟨rfl, Below.refl _ _⟩
  have d : decide ((100 : Int) < (len0 : Int)) = false := by simp; omega
  have d1 : decide ((100 : Int) < (len1 : Int)) = false := by simp; omega
  have HN := hide (show len0 ≤ 100 ∧ len1 ≤ 100 by omega)
  have WK := hide works_t
  generalize lR len0 V0 = l at *
  generalize lR len1 V1 = m at *
  have TL : Hid (l.length ≤ 100 ∧ m.length ≤ 100) := hide (by rw [LN.out, LM.out]; exact HN.out)
  have CP := hide (copied_h H0.out (by have := TL.out; omega))
  have CQ := hide (fun W (kW : Kp [] w W) => copied_h (H1.out.keep kW) (by have := TL.out; omega))
  have S0 := hide (fun W (kW : Kp [] w W) => rsort_h (k := k) (H0.out.keep kW))
  have S1 := hide (fun W (kW : Kp [] w W) => rsort_h (k := k) (H1.out.keep kW))
  have CX := hide (fun W v (x : List R4) (h : HR W v x) (hx : x.length ≤ 100) => copied_h h (show x.length ≤ 65536 by omega))
  have MG := hide (fun W v u (x y : List R4) (h : HR W v x) (hp : HP v) (g : HR W u y) (hx : x.length ≤ 100) (hy : y.length ≤ 100) => merge_h (k := k) h hp g (by omega))
  have RM := hide (fun W v u (x y : List R4) (h : HR W v x) (g : HR W u y) (hx : x.length ≤ 100) (hy : y.length ≤ 100) => rmerge_h (k := k) h g (by omega))
  have SM := hide (fun W v u (x : List R4) (h : HR W v x) (g : HR W u x) (hx : x.length ≤ 200) => same_h h g (by omega))
  clear hc0 hr0 hc1 hr1 b2 h2 h3
  cases sd
  case false =>
    go_enter Try.func5, Try.ntmps5
    go_wp2_with fail
    refine CP.out.mono ?_
    rintro e w1 ⟨vx, rfl, hx, px, k1⟩
    have K1 := hide k1
    have HX := hide hx
    have PX := hide px
    have CQ1 := hide (CQ.out _ k1)
    clear k1 hx px
    go_wp2_with fail
    refine CQ1.out.mono ?_
    rintro e w2 ⟨vy, rfl, hy, py, k2⟩
    have K2 := hide (K1.out.trans0 k2)
    have HX2 := hide (HX.out.keep k2)
    have HY2 := hide hy
    clear k2 hy py
    obtain ⟨x, hx⟩ : ∃ x, x = l := ⟨_, rfl⟩
    obtain ⟨y, hy⟩ : ∃ y, y = m := ⟨_, rfl⟩
    have TX : Hid (x.length ≤ 100 ∧ y.length ≤ 100) := hide (by rw [hx, hy]; exact TL.out)
    have PPX := PX
    rw [← hx] at HX2
    rw [← hy] at HY2
    clear hx hy CP CQ CQ1 S0 S1 HX PX K1
    go_wp2_with fail
    refine (CX.out _ _ _ HX2.out TX.out.1).mono ?_
    rintro e wa ⟨vu, rfl, hu, pu, ka⟩
    have KA := hide (K2.out.trans0 ka)
    have HXa := hide (HX2.out.keep ka)
    have HYa := hide (HY2.out.keep ka)
    have HUa := hide hu
    clear ka hu pu
    go_wp2_with fail
    refine (CX.out _ _ _ HYa.out TX.out.2).mono ?_
    rintro e wb ⟨vv, rfl, hv, pv, kb⟩
    have KB := hide (KA.out.trans0 kb)
    have HXb := hide (HXa.out.keep kb)
    have HYb := hide (HYa.out.keep kb)
    have HUb := hide (HUa.out.keep kb)
    have HVb := hide hv
    clear kb hv pv
    go_wp2_with fail
    refine (MG.out _ _ _ _ _ HXb.out PPX.out HYb.out TX.out.1 TX.out.2).mono ?_
    rintro e wc ⟨vl, rfl, hl, pl, kc⟩
    have KC := hide (KB.out.trans0 kc)
    have HXc := hide (HXb.out.keep kc)
    have HYc := hide (HYb.out.keep kc)
    have HUc := hide (HUb.out.keep kc)
    have HVc := hide (HVb.out.keep kc)
    have HLc := hide hl
    clear kc hl pl
    go_wp2_with fail
    refine (RM.out _ _ _ _ _ HUc.out HVc.out TX.out.1 TX.out.2).mono ?_
    rintro e wd ⟨vm, rfl, hm, pm, kd⟩
    have KD := hide (KC.out.trans0 kd)
    have HXd := hide (HXc.out.keep kd)
    have HYd := hide (HYc.out.keep kd)
    have HUd := hide (HUc.out.keep kd)
    have HVd := hide (HVc.out.keep kd)
    have HLd := hide (HLc.out.keep kd)
    have HMd := hide hm
    have ML := hide (show (mergeA k x y).length ≤ 200 by have := mergeA_le k x y; have := TX.out; omega)
    clear kd hm pm
    generalize mergeE k x y = me at *
    generalize mergeA k x y = ma at *
    go_wp2_with fail
    refine (SM.out _ _ _ _ HLd.out HMd.out ML.out).mono ?_
    rintro e we ⟨rfl, ke⟩
    have KE := hide (KD.out.trans0 ke)
    have HXe := hide (HXd.out.keep ke)
    have HYe := hide (HYd.out.keep ke)
    have HUe := hide (HUd.out.keep ke)
    have HVe := hide (HVd.out.keep ke)
    clear ke
    go_wp2_with fail
    refine (SM.out _ _ _ _ HXe.out HUe.out (by have := TX.out; omega)).mono ?_
    rintro e wf ⟨rfl, kf⟩
    have KF := hide (KE.out.trans0 kf)
    have HYf := hide (HYe.out.keep kf)
    have HVf := hide (HVe.out.keep kf)
    clear kf
    go_wp2_with fail
    refine (SM.out _ _ _ _ HYf.out HVf.out (by have := TX.out; omega)).mono ?_
    rintro e wg ⟨rfl, kg⟩
    have KG := hide (KF.out.trans0 kg)
    clear kg
    go_wp2_with fail
    refine (WK.out _).mono ?_
    rintro e wh ⟨rfl, kh⟩
    have KH := hide (KG.out.trans0 kh)
    clear kh
    go_wp2_with fail
    go_ret
    exact ⟨rfl, KH.out.below (by simp) (Nat.le_refl _)⟩
  case true =>
    go_enter Try.func5, Try.ntmps5
    go_wp2_with fail
    refine CP.out.mono ?_
    rintro e w1 ⟨vx, rfl, hx, px, k1⟩
    have K1 := hide k1
    have HX := hide hx
    have PX := hide px
    have CQ1 := hide (CQ.out _ k1)
    clear k1 hx px
    go_wp2_with fail
    refine CQ1.out.mono ?_
    rintro e w2 ⟨vy, rfl, hy, py, k2⟩
    have K2 := hide (K1.out.trans0 k2)
    have HX2 := hide (HX.out.keep k2)
    have HY2 := hide hy
    have S01 := hide (S0.out _ K2.out)
    clear k2 hy py
    go_wp2_with fail
    refine S01.out.mono ?_
    rintro e w3 ⟨vc, rfl, hc, pc, k3⟩
    have K3 := hide (K2.out.trans0 k3)
    have HX3 := hide (HX2.out.keep k3)
    have HY3 := hide (HY2.out.keep k3)
    have HC3 := hide hc
    have PC := hide pc
    have S11 := hide (S1.out _ K3.out)
    clear k3 hc pc
    go_wp2_with fail
    refine S11.out.mono ?_
    rintro e w4 ⟨vd, rfl, hd, pd, k4⟩
    have K4 := hide (K3.out.trans0 k4)
    have HX4 := hide (HX3.out.keep k4)
    have HY4 := hide (HY3.out.keep k4)
    have HC4 := hide (HC3.out.keep k4)
    have HD4 := hide hd
    clear k4 hd pd
    by_cases e1 : chk l.length k = 0
    · have e2 : chk m.length k = 0 := chk_mono e1 (by have := TL.out; omega)
      rw [e1, e2]
      obtain ⟨x, hx⟩ : ∃ x, x = sortA k l := ⟨_, rfl⟩
      obtain ⟨y, hy⟩ : ∃ y, y = sortA k m := ⟨_, rfl⟩
      have TX : Hid (x.length ≤ 100 ∧ y.length ≤ 100) := hide (by rw [hx, hy]; have := sortA_le k l; have := sortA_le k m; have := TL.out; omega)
      rw [← hx] at HC4
      rw [← hy] at HD4
      have HX2 := HC4
      have HY2 := HD4
      have K2 := K4
      have PPX := PC
      clear hx hy CP CQ CQ1 S0 S1 HX PX K1 e1 e2 S01 S11 HX3 HX4 HY3 HY4 HC3 HC4 HD4 K3 K4 PC
      go_wp2_with fail
      refine (CX.out _ _ _ HX2.out TX.out.1).mono ?_
      rintro e wa ⟨vu, rfl, hu, pu, ka⟩
      have KA := hide (K2.out.trans0 ka)
      have HXa := hide (HX2.out.keep ka)
      have HYa := hide (HY2.out.keep ka)
      have HUa := hide hu
      clear ka hu pu
      go_wp2_with fail
      refine (CX.out _ _ _ HYa.out TX.out.2).mono ?_
      rintro e wb ⟨vv, rfl, hv, pv, kb⟩
      have KB := hide (KA.out.trans0 kb)
      have HXb := hide (HXa.out.keep kb)
      have HYb := hide (HYa.out.keep kb)
      have HUb := hide (HUa.out.keep kb)
      have HVb := hide hv
      clear kb hv pv
      go_wp2_with fail
      refine (MG.out _ _ _ _ _ HXb.out PPX.out HYb.out TX.out.1 TX.out.2).mono ?_
      rintro e wc ⟨vl, rfl, hl, pl, kc⟩
      have KC := hide (KB.out.trans0 kc)
      have HXc := hide (HXb.out.keep kc)
      have HYc := hide (HYb.out.keep kc)
      have HUc := hide (HUb.out.keep kc)
      have HVc := hide (HVb.out.keep kc)
      have HLc := hide hl
      clear kc hl pl
      go_wp2_with fail
      refine (RM.out _ _ _ _ _ HUc.out HVc.out TX.out.1 TX.out.2).mono ?_
      rintro e wd ⟨vm, rfl, hm, pm, kd⟩
      have KD := hide (KC.out.trans0 kd)
      have HXd := hide (HXc.out.keep kd)
      have HYd := hide (HYc.out.keep kd)
      have HUd := hide (HUc.out.keep kd)
      have HVd := hide (HVc.out.keep kd)
      have HLd := hide (HLc.out.keep kd)
      have HMd := hide hm
      have ML := hide (show (mergeA k x y).length ≤ 200 by have := mergeA_le k x y; have := TX.out; omega)
      clear kd hm pm
      generalize mergeE k x y = me at *
      generalize mergeA k x y = ma at *
      go_wp2_with fail
      refine (SM.out _ _ _ _ HLd.out HMd.out ML.out).mono ?_
      rintro e we ⟨rfl, ke⟩
      have KE := hide (KD.out.trans0 ke)
      have HXe := hide (HXd.out.keep ke)
      have HYe := hide (HYd.out.keep ke)
      have HUe := hide (HUd.out.keep ke)
      have HVe := hide (HVd.out.keep ke)
      clear ke
      go_wp2_with fail
      refine (SM.out _ _ _ _ HXe.out HUe.out (by have := TX.out; omega)).mono ?_
      rintro e wf ⟨rfl, kf⟩
      have KF := hide (KE.out.trans0 kf)
      have HYf := hide (HYe.out.keep kf)
      have HVf := hide (HVe.out.keep kf)
      clear kf
      go_wp2_with fail
      refine (SM.out _ _ _ _ HYf.out HVf.out (by have := TX.out; omega)).mono ?_
      rintro e wg ⟨rfl, kg⟩
      have KG := hide (KF.out.trans0 kg)
      clear kg
      go_wp2_with fail
      refine (WK.out _).mono ?_
      rintro e wh ⟨rfl, kh⟩
      have KH := hide (KG.out.trans0 kh)
      clear kh
      go_wp2_with fail
      go_ret
      exact ⟨rfl, KH.out.below (by simp) (Nat.le_refl _)⟩
    · have dz : (chk l.length k == 0) = false := by simpa using e1
      obtain ⟨z, hz⟩ : ∃ z, z = chk l.length k := ⟨_, rfl⟩
      obtain ⟨z2, hz2⟩ : ∃ z, z = chk m.length k := ⟨_, rfl⟩
      rw [← hz, ← hz2]
      rw [← hz] at dz
      obtain ⟨x, hx⟩ : ∃ x, x = l := ⟨_, rfl⟩
      obtain ⟨y, hy⟩ : ∃ y, y = m := ⟨_, rfl⟩
      have TX : Hid (x.length ≤ 100 ∧ y.length ≤ 100) := hide (by rw [hx, hy]; exact TL.out)
      rw [← hx] at HX4
      rw [← hy] at HY4
      have HX2 := HX4
      have HY2 := HY4
      have K2 := K4
      have PPX := PX
      clear hx hy hz hz2 CP CQ CQ1 S0 S1 HX PX K1 e1 S01 S11 HX3 HX4 HY3 HY4 HC3 HC4 HD4 K3 K4 PC
      go_wp2_with fail
      refine (CX.out _ _ _ HX2.out TX.out.1).mono ?_
      rintro e wa ⟨vu, rfl, hu, pu, ka⟩
      have KA := hide (K2.out.trans0 ka)
      have HXa := hide (HX2.out.keep ka)
      have HYa := hide (HY2.out.keep ka)
      have HUa := hide hu
      clear ka hu pu
      go_wp2_with fail
      refine (CX.out _ _ _ HYa.out TX.out.2).mono ?_
      rintro e wb ⟨vv, rfl, hv, pv, kb⟩
      have KB := hide (KA.out.trans0 kb)
      have HXb := hide (HXa.out.keep kb)
      have HYb := hide (HYa.out.keep kb)
      have HUb := hide (HUa.out.keep kb)
      have HVb := hide hv
      clear kb hv pv
      go_wp2_with fail
      refine (MG.out _ _ _ _ _ HXb.out PPX.out HYb.out TX.out.1 TX.out.2).mono ?_
      rintro e wc ⟨vl, rfl, hl, pl, kc⟩
      have KC := hide (KB.out.trans0 kc)
      have HXc := hide (HXb.out.keep kc)
      have HYc := hide (HYb.out.keep kc)
      have HUc := hide (HUb.out.keep kc)
      have HVc := hide (HVb.out.keep kc)
      have HLc := hide hl
      clear kc hl pl
      go_wp2_with fail
      refine (RM.out _ _ _ _ _ HUc.out HVc.out TX.out.1 TX.out.2).mono ?_
      rintro e wd ⟨vm, rfl, hm, pm, kd⟩
      have KD := hide (KC.out.trans0 kd)
      have HXd := hide (HXc.out.keep kd)
      have HYd := hide (HYc.out.keep kd)
      have HUd := hide (HUc.out.keep kd)
      have HVd := hide (HVc.out.keep kd)
      have HLd := hide (HLc.out.keep kd)
      have HMd := hide hm
      have ML := hide (show (mergeA k x y).length ≤ 200 by have := mergeA_le k x y; have := TX.out; omega)
      clear kd hm pm
      generalize mergeE k x y = me at *
      generalize mergeA k x y = ma at *
      go_wp2_with fail
      refine (SM.out _ _ _ _ HLd.out HMd.out ML.out).mono ?_
      rintro e we ⟨rfl, ke⟩
      have KE := hide (KD.out.trans0 ke)
      have HXe := hide (HXd.out.keep ke)
      have HYe := hide (HYd.out.keep ke)
      have HUe := hide (HUd.out.keep ke)
      have HVe := hide (HVd.out.keep ke)
      clear ke
      go_wp2_with fail
      refine (SM.out _ _ _ _ HXe.out HUe.out (by have := TX.out; omega)).mono ?_
      rintro e wf ⟨rfl, kf⟩
      have KF := hide (KE.out.trans0 kf)
      have HYf := hide (HYe.out.keep kf)
      have HVf := hide (HVe.out.keep kf)
      clear kf
      go_wp2_with fail
      refine (SM.out _ _ _ _ HYf.out HVf.out (by have := TX.out; omega)).mono ?_
      rintro e wg ⟨rfl, kg⟩
      have KG := hide (KF.out.trans0 kg)
      clear kg
      go_wp2_with fail
      refine (WK.out _).mono ?_
      rintro e wh ⟨rfl, kh⟩
      have KH := hide (KG.out.trans0 kh)
      clear kh
      go_wp2_with fail
      go_ret
      exact ⟨rfl, KH.out.below (by simp) (Nat.le_refl _)⟩
theorem own : ownKnob Try.prog.godebug = none := by kernel_rfl
theorem laidOut : laidOutB Try.prog = true := by kernel_rfl
set_option maxRecDepth 100000 in
theorem lifted (os : Os) (started : os.Started) (H : Type) (enc : TypeId × Value → H) :
    ReturnsInHanded {} Try.checked os 5 .any (Rows.msortMergesSpec.pre6 enc Try.prog Try.f5 Rows.msortMergesRow.domain false) (Rows.msortMergesSpec.post enc Try.prog Try.f5 false true false false) := by
  refine returnsInHanded_of_change (C := Try.checked) own started (by kernel_rfl) Try.func5
    (ChangeSpec.witness6 (enc := enc) (C := Try.checked) false ⟨#[], #[.slice none 0 0, .slice none 0 0, .int .i64 0, .bool false], []⟩ 8 (by kernel_rfl) (by kernel_rfl) (by kernel_rfl) (by kernel_rfl)) ?_
  intro W base args ds gs before hval0 hW hcnd _
  have hval : ∀ (j : Nat) t v, Try.f5.params[j]? = some t → args[j]? = some v → Value.okWide Try.prog W .any base t v := hval0
  have hW' := hW
  obtain ⟨p, q, hA0, hV, rfl, hfz, hnd⟩ := hW
  have hA : DataW.TrodAll enc Try.prog W 0 (fun _ => true) true Try.f5.params.toList args.toList ds p := hA0
  rw [Try.params5] at hA hval
  obtain ⟨v0, vs0, d0, ds0, p0, q0, hargs, rfl, rfl, h0, r0⟩ := trodAll_cons hA
  obtain ⟨v1, vs1, d1, ds1, p1, q1, rfl, rfl, rfl, h1, r1⟩ := trodAll_cons r0
  obtain ⟨v2, vs2, d2, ds2, p2, q2, rfl, rfl, rfl, h2, r2⟩ := trodAll_cons r1
  obtain ⟨v3, vs3, d3, ds3, p3, q3, rfl, rfl, rfl, h3, r3⟩ := trodAll_cons r2
  obtain ⟨rfl, rfl, rfl⟩ := trodAll_nil r3
  obtain rfl : args = #[v0, v1, v2, v3] := by cases args; simp_all
  obtain ⟨rfl, rfl⟩ := trodVars_none hV
  have k0 := h0
  have lt0 : ∀ x ∈ p0, x.block < W.heap.size := by obtain ⟨m, hm⟩ := k0; exact DataW.trod_lt m _ _ _ hm
  have k1 := h1
  have lt1 : ∀ x ∈ p1, x.block < W.heap.size := by obtain ⟨m, hm⟩ := k1; exact DataW.trod_lt m _ _ _ hm
  have k2 := h2
  have lt2 : ∀ x ∈ p2, x.block < W.heap.size := by obtain ⟨m, hm⟩ := k2; exact DataW.trod_lt m _ _ _ hm
  have k3 := h3
  have lt3 : ∀ x ∈ p3, x.block < W.heap.size := by obtain ⟨m, hm⟩ := k3; exact DataW.trod_lt m _ _ _ hm
  obtain ⟨s0, len0, cap0, rfl⟩ := okWide_slice Try.underlying31 (hval 0 31 v0 rfl rfl)
  obtain ⟨V0, hc0, hr0⟩ := rows_in Try.underlying31 (flat_struct (ks := [.u64, .u64, .i64, .i64]) Try.underlying24 (by kernel_rfl) (by kernel_rfl)) (by decide) h0
  obtain ⟨s1, len1, cap1, rfl⟩ := okWide_slice Try.underlying31 (hval 1 31 v1 rfl rfl)
  obtain ⟨V1, hc1, hr1⟩ := rows_in Try.underlying31 (flat_struct (ks := [.u64, .u64, .i64, .i64]) Try.underlying24 (by kernel_rfl) (by kernel_rfl)) (by decide) h1
  obtain ⟨a2, rfl, _, _, w2⟩ := open_int Try.underlying25 (hval 2 25 v2 rfl rfl) h2
  obtain ⟨a3, rfl, _, _⟩ := open_bool Try.underlying4 (hval 3 4 v3 rfl rfl) h3
  clear hA0 hval0
  refine (walk s0 len0 cap0 V0 s1 len1 cap1 V1 a2 a3 W hc0 hr0 hc1 hr1 (bounds_i64 w2)).mono fun e W' ⟨he, bel⟩ => ?_
  subst he
  exact ⟨_, rfl, _, _, _, [], _, [], hW', trodAll_mk1 (shut_bool Try.underlying4 _), (trodAll_cons_mk (Below.trod laidOut (by kernel_rfl) (of_decide_eq_true (by kernel_rfl)) k0 bel lt0) (trodAll_cons_mk (Below.trod laidOut (by kernel_rfl) (of_decide_eq_true (by kernel_rfl)) k1 bel lt1) (trodAll_cons_mk (Below.trod laidOut (by kernel_rfl) (of_decide_eq_true (by kernel_rfl)) k2 bel lt2) (trodAll_cons_mk (Below.trod laidOut (by kernel_rfl) (of_decide_eq_true (by kernel_rfl)) k3 bel lt3) trodAll_mk0)))), rfl, bel.frame _, fun h => by cases h⟩
theorem holds : Rows.msortMergesRow.holds Try.pinned (OpenSpec.ofChange Rows.msortMergesSpec) :=
  OpenClaim.holds_of_wide 5 Try.f5 rfl rfl rfl rfl rfl rfl rfl ⟨rfl, rfl, rfl, rfl, rfl⟩ rfl rfl rfl rfl rfl (by kernel_rfl) Try.func5 (by kernel_rfl)
    (of_decide_eq_true (by kernel_rfl)) (by unfold Func.isWrapper; first | (rw [if_pos (by decide +kernel)]; kernel_rfl) | (rw [if_neg (by decide +kernel)]; exact ⟨rfl, rfl⟩))
    (fun os started H enc _ => lifted os started H enc)
theorem proved : Rows.MsortMergesSaid := holds
end lawMerges
end Go.Proofs.Ytiebmjdclicheaa
