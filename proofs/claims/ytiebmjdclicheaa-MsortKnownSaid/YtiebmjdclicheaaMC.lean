/- merge, of indexes. -/
import Derived.Test.YtiebmjdclicheaaMA
import Derived.Test.YtiebmjdclicheaaMB
set_option linter.unusedVariables false
set_option linter.unusedSimpArgs false
namespace Go.Proofs.Ytiebmjdclicheaa
open Go.RowKit

def encI (x : Int) : Value := .int .i64 x
/-- the list l at p -/
def RdL (w : World) (p : Option Addr) (l : List Int) : Prop := l = [] ∨ ∃ b off, p = some ⟨b, off, none⟩ ∧ b < w.heap.size ∧ ∀ (i : Nat) (x : Int), l[i]? = some x → w.cell? ⟨b, off + i, none⟩ = some (encI x)
theorem RdL.below {w w' : World} {p : Option Addr} {l : List Int} (h : RdL w p l) (k : Kp [] w w') : RdL w' p l := by
  rcases h with h | ⟨b, off, rfl, hb, hc⟩
  · exact .inl h
  · exact .inr ⟨b, off, rfl, Nat.lt_of_lt_of_le hb k.size, fun i x hx => (k.at hb _).trans (hc i x hx)⟩
theorem infoN : (Try.prog.info? 3).map (fun i => (i.zero, i.size, i.bytes)) = some (some (.int .i64 0), 1, 8) := by kernel_rfl
theorem infoParts {t : TypeId} {z : Value} {s y : Nat} (h : (Try.prog.info? t).map (fun i => (i.zero, i.size, i.bytes)) = some (some z, s, y)) : ∃ i, Try.prog.info? t = some i ∧ i.zero = some z ∧ i.size = s ∧ i.bytes = y := by
  cases hi : Try.prog.info? t with
  | none => rw [hi] at h; cases h
  | some i => rw [hi] at h; simp at h; exact ⟨i, rfl, h.1, h.2.1, h.2.2⟩
theorem litN (a : Int) (w : World) : (Instr.buildSlice 35 1 #[(0, .int .i64 a)]).run Try.prog w = .ok (.slice (some ⟨w.heap.size, 0, none⟩) 1 1) (w.alloc (.cells #[.int .i64 a] 3)) := by kernel_rfl
theorem mapI_snoc (out : List Int) (x : Int) : (out ++ [x]).map encI = out.map encI ++ [.int .i64 x] := by simp [encI]
set_option maxRecDepth 100000 in
set_option maxHeartbeats 16000000 in
theorem mergeI_t {bf : Int → Int → Bool} {w : World} {la lb : List Int} {p q : Option Addr} {ca cb k : Nat} {cap : Array Value} (ha : RdL w p la) (hb : RdL w q lb) (hca : la.length ≤ ca ∧ ca ≤ maxLen ∧ ((p = none ∧ ca = 0) ∨ ∃ b off, p = some ⟨b, off, none⟩)) (hl : la.length ≤ 65536 ∧ lb.length ≤ 65536)
    (he : ∀ args w, (callFunc k args).run Try.prog w = .ok (.enter k args) w)
    (hc : ∀ W, Kp [] w W → ∀ x y : Int, x ∈ la → y ∈ lb → Calls Try.prog k (#[.int .i64 y, .int .i64 x] ++ cap) W fun e W' => e = .returned (.bool (bf y x)) ∧ Kp [] W W') :
    Calls Try.prog 46 #[.slice p la.length ca, .slice q lb.length cb, .func (.func k) #[] cap] w fun e w' => ∃ v, e = .returned (.tuple #[v, .int .i64 ((mrg bf la lb).2 : Int)]) ∧ w'.ownsRow w.heap.size 3 1 v (la.length + lb.length) ((mrg bf la lb).1.map encI) ∧ Kp [] w w' := by
  have HA := hide ha
  have HB := hide hb
  have HC := hide hc
  have HL := hide hl
  have HCA := hide hca
  obtain ⟨i0, hi, hz0, hz1, hz2⟩ := infoParts infoN
  have HI := hide (And.intro hi (And.intro hz0 (And.intro hz1 hz2)))
  have m1 := fun (x : Int) W => litN x W
  obtain ⟨na, hna⟩ : ∃ n, n = la.length := ⟨_, rfl⟩
  obtain ⟨nb, hnb⟩ : ∃ n, n = lb.length := ⟨_, rfl⟩
  have HNA := hide hna
  have HNB := hide hnb
  obtain ⟨nn, hnn⟩ : ∃ n, n = na + nb := ⟨_, rfl⟩
  have HNN := hide hnn
  have en : (na : Int) + (nb : Int) = (nn : Int) := by omega
  have wn : IntKind.i64.wrap (nn : Int) = (nn : Int) := by rw [IntKind.wrap_i64]; omega
  rw [← hna, ← hnb]
  clear ha hb hc hl hca hna hnb hnn hi hz0 hz1 hz2
  go_enter Try.func46, Try.ntmps46
  go_wp2_with (refine wpList_make_own w rfl _ _ 35 rfl w.heap.size 3 i0 (.int .i64 0) 1 Try.underlying35 HI.out.1 HI.out.2.1 HI.out.2.2.1 .i64 .i64 _ nn rfl rfl rfl (by rw [HI.out.2.2.2]; have := HL.out; have := HNA.out; have := HNB.out; have := HNN.out; omega) (by have := HL.out; have := HNA.out; have := HNB.out; have := HNN.out; unfold maxLen; omega) (Nat.le_refl _) ?_)
  intro w0 r0 g0
  have R0 := hide r0
  have K0 : Hid (Kp [] w w0) := (Kp.refl [] w).grown g0 (by simp)
  clear r0 g0
  go_wp2_with fail
  go_loopw [8, 9, 10, 21] (fun m n i j wr => ∃ (I J : Nat) (out : List Int) (N : Nat), n = .int .i64 (N : Int) ∧ i = .int .i64 (I : Int) ∧ j = .int .i64 (J : Int) ∧ Hid (wr.ownsRow w.heap.size 3 1 m out.length (out.map encI)) ∧ Hid (I ≤ na ∧ J ≤ nb ∧ out.length = I + J) ∧ Hid (Part bf la lb I J out N) ∧ Hid (N ≤ na * J) ∧ Hid (Kp [] w wr)) (fun _ _ _ j _ => nb - (intOf j).toNat)
  case atStart => exact ⟨0, 0, [], 0, rfl, rfl, rfl, R0.out, ⟨Nat.zero_le _, Nat.zero_le _, rfl⟩, Part.start bf la lb, Nat.zero_le _, K0.out⟩
  case round =>
    obtain ⟨I, J, out, N, rfl, rfl, rfl, hm, hb, hP, hN, hK⟩ := hrel
    by_cases hlt : J < nb
    · have dk : decide ((J : Int) < (nb : Int)) = true := by simpa using hlt
      have dk' : decide (J < nb) = true := by simpa using hlt
      have wJ : IntKind.i64.wrap ((J : Int) + 1) = (J : Int) + 1 := by have := HL.out; have := HNB.out; rw [IntKind.wrap_i64]; omega
      have bJ : (J : Int) < (nb : Int) := by omega
      obtain ⟨y, hy⟩ : ∃ y, lb[J]? = some y := ⟨_, List.getElem?_eq_getElem (by rw [← HNB.out]; exact hlt)⟩
      have HY := hide hy
      have ymem := hide (show y ∈ lb from List.mem_of_getElem? hy)
      have nb0 := hide (show lb ≠ [] by intro e; rw [e] at hy; cases hy)
      rcases HB.out.below hK.out with h0 | ⟨bq, oq, rfl, _, hq⟩
      · exact absurd h0 nb0.out
      have e1 : wr.cell? ⟨bq, oq + J, none⟩ = some (.int .i64 y) := hq J y hy
      have HLT := hide hlt
      clear hq hy hlt
      obtain ⟨wo, hwo⟩ : ∃ wo : World, wo = wr := ⟨_, rfl⟩
      rw [← hwo] at e1 hm hK ⊢
      clear hwo
      go_wp2_with fail
      clear e1
      go_loopw [8, 10] (fun m i wr => ∃ (I : Nat) (out : List Int), i = .int .i64 (I : Int) ∧ Hid (wr.ownsRow w.heap.size 3 1 m out.length (out.map encI)) ∧ Hid (I ≤ na ∧ out.length = I + J) ∧ Hid (Part bf la lb I J out N) ∧ Hid (Kp [] w wr)) (fun _ i _ => na - (intOf i).toNat)
      case atStart => exact ⟨I, out, rfl, hm.out, ⟨hb.out.1, hb.out.2.2⟩, hP.out, hK.out⟩
      case round =>
        obtain ⟨I', out', rfl, hm', hI', hP', hK'⟩ := hrel
        have HSZ := hide hK'.out.size
        by_cases hi : I' < na
        · have ek : decide ((I' : Int) < (na : Int)) = true := by simpa using hi
          have ek' : decide (I' < na) = true := by simpa using hi
          have wI : IntKind.i64.wrap ((I' : Int) + 1) = (I' : Int) + 1 := by have := HL.out; have := HNA.out; rw [IntKind.wrap_i64]; omega
          have bI : (I' : Int) < (na : Int) := by omega
          obtain ⟨x, hx⟩ : ∃ x, la[I']? = some x := ⟨_, List.getElem?_eq_getElem (by rw [← HNA.out]; exact hi)⟩
          have HX := hide hx
          have na0 := hide (show la ≠ [] by intro e; rw [e] at hx; cases hx)
          rcases HA.out.below hK'.out with h0 | ⟨bp, op, rfl, _, hp⟩
          · exact absurd h0 na0.out
          have e2 : wr.cell? ⟨bp, op + I', none⟩ = some (.int .i64 x) := hp I' x hx
          have CC := hide (HC.out _ hK'.out x y (List.mem_of_getElem? hx) ymem.out)
          have HLI := hide hi
          clear hp hx hi
          go_wp2_with fail
          refine CC.out.mono ?_
          rintro e w1 ⟨rfl, k1⟩
          have K1 := hide (hK'.out.trans0 k1)
          have HSZ := hide K1.out.size
          have R1 := hide (k1.row hm'.out (by simp))
          have HLL := hide (show out'.length ≤ 131072 by have := hI'.out; have := HL.out; have := HNA.out; have := HNB.out; have := HLT.out; omega)
          clear k1 CC
          by_cases hb' : bf y x = true
          · have HBF := hide hb'
            rw [hb']
            clear hb' e2
            have wS : IntKind.i64.wrap ((na : Int) - (I' : Int)) = ((na - I' : Nat) : Int) := by have := HL.out; have := HNA.out; have := HLI.out; rw [IntKind.wrap_i64]; omega
            obtain ⟨d, hd⟩ : ∃ d, d = na - I' := ⟨_, rfl⟩
            rw [← hd] at wS
            have mb : na * J ≤ 65536 * 65536 := Nat.mul_le_mul (by have := HL.out; have := HNA.out; omega) (by have := HL.out; have := HNB.out; have := HLT.out; omega)
            have wA : IntKind.i64.wrap ((N : Int) + (d : Int)) = ((N + d : Nat) : Int) := by have := hN.out; have := HL.out; have := HNA.out; rw [IntKind.wrap_i64]; omega
            have HDD := hide hd
            obtain ⟨nd, hnd⟩ : ∃ nd, nd = N + d := ⟨_, rfl⟩
            have HND := hide hnd
            rw [← hnd] at wA
            have R1' := hide ((Kp.alloc (w := w1) (.cells #[.int .i64 y] 3)).row R1.out (by simp))
            have my := m1 y
            clear hd hnd mb
            go_wp2_with (at_builtin; refine wpList_append_own _ rfl _ _ 35 rfl w.heap.size 3 i0 (.int .i64 0) 1 8 Try.underlying35 HI.out.1 HI.out.2.1 HI.out.2.2.1 HI.out.2.2.2 rfl (by decide) _ out'.length (out'.map encI) rfl R1'.out ⟨w1.heap.size, 0, none⟩ 1 1 [.int .i64 y] rfl rfl (one_src w1 (.int .i64 y) 3) (by simp [Value.oneCell']) (by have := HLL.out; unfold maxLen; omega) (by have := HLL.out; omega) (by have := HSZ.out; simp; omega) ?_)
            intro v' w' ho hg _
            rw [← mapI_snoc] at ho
            have HO := hide ho
            have HK2 := hide ((K1.out.allocK (.cells #[.int .i64 y] 3)).grown hg (fun z hz => (R1.out.lt z hz).1))
            clear ho hg
            go_wp2_with fail
            go_roundw
            case rel => exact ⟨I', J + 1, out' ++ [y], nd, rfl, rfl, by go_num, by rw [List.length_append]; exact HO.out, ⟨hI'.out.1, by have := HLT.out; omega, by rw [List.length_append]; have := hI'.out; simp; omega⟩, by rw [HND.out, HDD.out, HNA.out]; exact hP'.out.next HY.out (.inr ⟨x, HX.out, HBF.out⟩), by have h1 := hN.out; have h2 : na * (J + 1) = na * J + na := Nat.mul_succ _ _; show nd ≤ _; rw [h2, HND.out, HDD.out]; omega, HK2.out⟩
            case measure => have := HLT.out; simp [intOf]; omega
          · have HBF := hide (show bf y x = false by simpa using hb')
            rw [HBF.out]
            have e3 : w1.cell? ⟨bp, op + I', none⟩ = some (.int .i64 x) := by
              rcases HA.out.below K1.out with h0 | ⟨bp', op', hpp, _, hp⟩
              · exact absurd h0 na0.out
              · have hpp := Option.some.inj hpp
                injection hpp with h1 h2 _
                subst h1; subst h2
                exact hp I' x HX.out
            have R1' := hide ((Kp.alloc (w := w1) (.cells #[.int .i64 x] 3)).row R1.out (by simp))
            have mx := m1 x
            clear hb' e2
            go_wp2_with (at_builtin; refine wpList_append_own _ rfl _ _ 35 rfl w.heap.size 3 i0 (.int .i64 0) 1 8 Try.underlying35 HI.out.1 HI.out.2.1 HI.out.2.2.1 HI.out.2.2.2 rfl (by decide) _ out'.length (out'.map encI) rfl R1'.out ⟨w1.heap.size, 0, none⟩ 1 1 [.int .i64 x] rfl rfl (one_src w1 (.int .i64 x) 3) (by simp [Value.oneCell']) (by have := HLL.out; unfold maxLen; omega) (by have := HLL.out; omega) (by have := HSZ.out; simp; omega) ?_)
            intro v' w' ho hg _
            rw [← mapI_snoc] at ho
            have HO := hide ho
            have HK2 := hide ((K1.out.allocK (.cells #[.int .i64 x] 3)).grown hg (fun z hz => (R1.out.lt z hz).1))
            clear ho hg e3
            go_wp2_with fail
            go_roundw
            case rel => exact ⟨I' + 1, out' ++ [x], by go_num, by rw [List.length_append]; exact HO.out, ⟨by have := HLI.out; omega, by rw [List.length_append]; have := hI'.out; simp; omega⟩, hP'.out.skip HX.out HY.out HBF.out, HK2.out⟩
            case measure => have := HLI.out; simp [intOf]; omega
        · have hin : I' = na := by have := hI'.out; omega
          have ek : decide ((I' : Int) < (na : Int)) = false := by simpa using hi
          have ek' : decide (I' < na) = false := by simpa using hi
          have HIN := hide hin
          have wS : IntKind.i64.wrap ((na : Int) - (I' : Int)) = 0 := by rw [hin, IntKind.wrap_i64]; omega
          have mb : na * J ≤ 65536 * 65536 := Nat.mul_le_mul (by have := HL.out; have := HNA.out; omega) (by have := HL.out; have := HNB.out; have := HLT.out; omega)
          have wA : IntKind.i64.wrap (N : Int) = (N : Int) := by have := hN.out; rw [IntKind.wrap_i64]; omega
          have HLL := hide (show out'.length ≤ 131072 by have := hI'.out; have := HL.out; have := HNA.out; have := HNB.out; have := HLT.out; omega)
          have R1' := hide ((Kp.alloc (w := wr) (.cells #[.int .i64 y] 3)).row hm'.out (by simp))
          have my := m1 y
          clear hin hi mb
          go_wp2_with (at_builtin; refine wpList_append_own _ rfl _ _ 35 rfl w.heap.size 3 i0 (.int .i64 0) 1 8 Try.underlying35 HI.out.1 HI.out.2.1 HI.out.2.2.1 HI.out.2.2.2 rfl (by decide) _ out'.length (out'.map encI) rfl R1'.out ⟨wr.heap.size, 0, none⟩ 1 1 [.int .i64 y] rfl rfl (one_src wr (.int .i64 y) 3) (by simp [Value.oneCell']) (by have := HLL.out; unfold maxLen; omega) (by have := HLL.out; omega) (by have := HSZ.out; simp; omega) ?_)
          intro v' w' ho hg _
          rw [← mapI_snoc] at ho
          have HO := hide ho
          have HK2 := hide ((hK'.out.allocK (.cells #[.int .i64 y] 3)).grown hg (fun z hz => (hm'.out.lt z hz).1))
          clear ho hg
          go_wp2_with fail
          go_roundw
          case rel => exact ⟨I', J + 1, out' ++ [y], N, rfl, rfl, by go_num, by rw [List.length_append]; exact HO.out, ⟨hI'.out.1, by have := HLT.out; omega, by rw [List.length_append]; have := hI'.out; simp; omega⟩, by have q := hP'.out.next HY.out (.inl (by rw [← HNA.out, HIN.out]; exact Nat.le_refl _)); rw [← HNA.out, HIN.out, Nat.sub_self, Nat.add_zero] at q; rw [HIN.out]; exact q, by have h1 := hN.out; have h2 : na * (J + 1) = na * J + na := Nat.mul_succ _ _; show N ≤ _; rw [h2]; omega, HK2.out⟩
          case measure => have := HLT.out; simp [intOf]; omega
    · have hJ : J = nb := by have := hb.out; omega
      have dk : decide ((J : Int) < (nb : Int)) = false := by simpa using hlt
      have dk' : decide (J < nb) = false := by simpa using hlt
      have dn := hP.out
      rw [hJ, HNB.out] at dn
      have DN := hide dn.done
      have HSZ := hide hK.out.size
      have HLL := hide (show out.length ≤ 131072 by have := hb.out; have := HL.out; have := HNA.out; have := HNB.out; omega)
      have OL := hide (show (mrg bf la lb).1.length = na + nb by rw [mrg_len, HNA.out, HNB.out])
      have l1 : I ≤ na := hb.out.1
      have l2 : na ≤ ca := by have := HCA.out; have := HNA.out; omega
      have l3 : I ≤ ca := by omega
      have HJ := hide hJ
      clear dn hlt hJ
      rcases HCA.out.2.2 with ⟨rfl, rfl⟩ | ⟨bp, op, rfl⟩
      · have la0 : la = [] := by
          rcases HA.out with h | ⟨_, _, h, _⟩
          · exact h
          · cases h
        have na00 : na = 0 := by rw [HNA.out, la0]; rfl
        subst na00
        have i00 : I = 0 := by omega
        subst i00
        have F := hide (show out = (mrg bf la lb).1 by have := DN.out.1; rw [la0] at this ⊢; simpa using this)
        clear la0 l1 l2 l3
        go_wp2_with (at_builtin; refine wpList_append_own_none rfl _ _ 35 rfl w.heap.size 3 i0 1 Try.underlying35 HI.out.1 _ out.length (out.map encI) rfl hm.out rfl ?_)
        go_wp2_with fail
        go_ret2
        refine ⟨_, by rw [DN.out.2]; rfl, ?_, hK.out⟩
        have qr := hm.out
        rw [F.out, OL.out] at qr
        rw [← Nat.zero_add nb]
        first | exact qr | (rw [Nat.zero_add] at qr ⊢; exact qr)
      · obtain ⟨news, hnews⟩ : ∃ news, news = (la.drop I).map encI := ⟨_, rfl⟩
        have hlen : news.length = na - I := by rw [hnews]; simp [HNA.out]
        obtain ⟨A, hA, hsrc⟩ : ∃ A : Addr, (if ca = I then (some ⟨bp, op, none⟩ : Option Addr) else some ⟨bp, op + I, none⟩) = some A ∧ Hid (∀ t u, news[t]? = some u → wr.cell? (A.add t) = some u) := by
          by_cases h : ca = I
          · refine ⟨⟨bp, op, none⟩, by simp [h], fun t u hu => ?_⟩
            have h0 : news.length = 0 := by rw [hlen]; omega
            rw [List.length_eq_zero_iff.1 h0] at hu
            simp at hu
          · refine ⟨⟨bp, op + I, none⟩, by simp [h], fun t u hu => ?_⟩
            have ht : t < na - I := by
              have := (List.getElem?_eq_some_iff.1 hu).1
              rw [hlen] at this; exact this
            rw [hnews, List.getElem?_map, List.getElem?_drop] at hu
            rcases HA.out.below hK.out with h0 | ⟨b', o', hpp, _, hp⟩
            · rw [h0] at hu; simp at hu
            · have hpp := Option.some.inj hpp
              injection hpp with h1 h2 _
              subst h1; subst h2
              cases hx : la[I + t]? with
              | none => rw [hx] at hu; simp at hu
              | some x =>
                rw [hx] at hu
                simp at hu
                rw [Addr.add_lit, Nat.add_assoc, ← hu]
                exact hp (I + t) x hx
        obtain ⟨dd, hdd⟩ : ∃ d, d = na - I := ⟨_, rfl⟩
        have s1 : Hid (news.length = dd * 1) := by rw [Nat.mul_one, hdd]; exact hlen
        have s2 : Hid (∀ u ∈ news, u.oneCell' = true) := by
          intro u hu
          rw [hnews] at hu
          obtain ⟨x, _, rfl⟩ := List.mem_map.1 hu
          rfl
        have F := hide (show out.map encI ++ news = (mrg bf la lb).1.map encI by rw [← DN.out.1, List.map_append, hnews])
        have HDD := hide (show out.length + dd = na + nb by have := hb.out; have := HJ.out; omega)
        have edd : na - I = dd := hdd.symm
        clear hnews hlen hdd
        go_wp2_with (at_builtin; refine wpList_append_own _ rfl _ _ 35 rfl w.heap.size 3 i0 (.int .i64 0) 1 8 Try.underlying35 HI.out.1 HI.out.2.1 HI.out.2.2.1 HI.out.2.2.2 rfl (by decide) _ out.length (out.map encI) rfl hm.out A dd _ news rfl s1.out hsrc.out s2.out (by have := HLL.out; have := HDD.out; have := HL.out; have := HNA.out; have := HNB.out; unfold maxLen; omega) (by have := HLL.out; have := HDD.out; have := HL.out; have := HNA.out; have := HNB.out; omega) HSZ.out ?_)
        intro v' w' ho hg _
        rw [F.out, HDD.out] at ho
        have HO := hide ho
        have HK2 := hide (hK.out.grown hg (fun z hz => (hm.out.lt z hz).1))
        clear ho hg
        go_wp2_with fail
        go_ret2
        exact ⟨_, by rw [DN.out.2]; rfl, HO.out, HK2.out⟩
end Go.Proofs.Ytiebmjdclicheaa
