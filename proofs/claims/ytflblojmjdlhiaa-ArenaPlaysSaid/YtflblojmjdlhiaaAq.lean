/- Appending to a slice of the call's own: the result lies in the same block or in a new one. -/
import Derived.Test.YtflblojmjdlhiaaB
set_option linter.unusedVariables false
set_option linter.unusedSimpArgs false
namespace Go.Proofs.Ytflblojmjdlhiaa
open Go.RowKit

theorem row_mono {w : World} {B B' e size n : Nat} {v : Value} {xs : List Value} (h : w.ownsRow B e size v n xs) (hb : B' ≤ B) : w.ownsRow B' e size v n xs := by
  refine ⟨h.1, ?_⟩
  rcases h.2 with h1 | ⟨g, cap, cur, rfl, hg, rest⟩
  · exact .inl h1
  · exact .inr ⟨g, cap, cur, rfl, by omega, rest⟩

theorem run_append_new {P : Program} (w : World) (base : Nat) (t ty e : TypeId) (i : TypeInfo) (z : Value) (size bytes : Nat) (ht : P.underlying t = some (.slice e)) (hi : P.info? e = some i) (hz : i.zero = some z)
    (hsize : i.size = size) (hby : i.bytes = bytes) (hzs : z.cells.size = size) (hsz : 0 < size)
    (v : Value) (n : Nat) (xs : List Value) (hown : w.ownsRow base e size v n xs)
    (a : Addr) (m c : Nat) (news : List Value) (hl : news.length = m * size) (hnews : ∀ j u, news[j]? = some u → w.cell? (a.add j) = some u) (h1 : ∀ u ∈ news, u.oneCell' = true)
    (h63 : n + m ≤ maxLen) (hbytes : (n + m) * bytes ≤ 140737488355328) (hbase : base ≤ w.heap.size) :
    ∃ v' w', (Builtin.append_ #[t, t] ty #[v, .slice (some a) m c]).run P w = .ok v' w' ∧ w'.ownsRow base e size v' (n + m) (xs ++ news) ∧ w.grownBy w' v.ownBlock ∧
      (v'.ownBlock = v.ownBlock ∨ ∃ k, v'.ownBlock = some k ∧ w.heap.size ≤ k) := by
  obtain ⟨v', w', hr, h2, h3, h4⟩ := run_append_own (P := P) w base t ty e i z size bytes ht hi hz hsize hby hzs hsz v n xs hown a m c news hl hnews h1 h63 hbytes hbase
  refine ⟨v', w', hr, h2, h3, ?_⟩
  rcases hown.2 with ⟨rfl, rfl⟩ | ⟨g, cap, cur, rfl, hbg, hg, hnc, hcm, hcs, htake⟩
  · have hx : xs = [] := List.eq_nil_of_length_eq_zero (by simpa using hown.1)
    subst hx
    obtain ⟨v2, w2, hr2, k2, _, _⟩ := run_append_own (P := P) w w.heap.size t ty e i z size bytes ht hi hz hsize hby hzs hsz (.slice none 0 0) 0 [] (World.ownsRow_nil w w.heap.size e size) a m c news hl hnews h1 h63 hbytes (Nat.le_refl _)
    have he := hr.symm.trans hr2
    injection he with he1 he2
    subst he1
    have lt := k2.lt
    cases hv : v'.ownBlock with
    | none => exact .inl rfl
    | some k => exact .inr ⟨k, rfl, (lt k hv).1⟩
  · by_cases hroom : n + m ≤ cap
    · obtain ⟨w2, hr2, _⟩ := run_append_fits (P := P) w base t ty e i size ht hi hsize g n cap xs hown a m c news hl hnews h1 hroom
      have he := hr.symm.trans hr2
      injection he with he1 he2
      subst he1
      exact .inl rfl
    · subst hsize
      subst hby
      have hr2 := run_append_grow (P := P) w t ty e i z ht hi hz ⟨g, 0, none⟩ n cap xs hown.1 (hown.cells (g := g) rfl) a m c news hl hnews (by omega) (by simp only [maxLen] at h63; omega) (growslice_fits (by omega) hbytes)
      have he := hr.symm.trans hr2
      injection he with he1 he2
      subst he1
      exact .inr ⟨_, rfl, Nat.le_refl _⟩

theorem wpList_append_new {P : Program} (w : World) {ops : Array Oper} {rest : List Oper} {o : Oper} {a : Act} {Q : Exit → Act → World → Prop} (hgd : o.guard = none) (s x : Operand) (t : TypeId)
    (ho : o.op = .call { callee := .builtin .append, args := #[s, x], argTypes := #[t, t] })
    (base : Nat) (e : TypeId) (i : TypeInfo) (z : Value) (size bytes : Nat) (ht : P.underlying t = some (.slice e)) (hi : P.info? e = some i) (hz : i.zero = some z)
    (hsize : i.size = size) (hby : i.bytes = bytes) (hzs : z.cells.size = size) (hsz : 0 < size)
    (v : Value) (n : Nat) (xs : List Value) (hs : a.eval s = v) (hown : w.ownsRow base e size v n xs)
    (ad : Addr) (m c : Nat) (news : List Value) (hx : a.eval x = .slice (some ad) m c) (hl : news.length = m * size) (hnews : ∀ j u, news[j]? = some u → w.cell? (ad.add j) = some u) (h1 : ∀ u ∈ news, u.oneCell' = true)
    (h63 : n + m ≤ maxLen) (hbytes : (n + m) * bytes ≤ 140737488355328) (hbase : base ≤ w.heap.size)
    (h : ∀ v' w', w'.ownsRow base e size v' (n + m) (xs ++ news) → w.grownBy w' v.ownBlock → (v'.ownBlock = v.ownBlock ∨ ∃ k, v'.ownBlock = some k ∧ w.heap.size ≤ k) → wpList P ops Q rest (a.put o.dst v') w') : wpList P ops Q (o :: rest) a w := by
  refine wpList_plain hgd fun K hK => ?_
  obtain ⟨v', w', hr, h2, h3, h4⟩ := run_append_new (P := P) w base t o.type e i z size bytes ht hi hz hsize hby hzs hsz v n xs hown ad m c news hl hnews h1 h63 hbytes hbase
  unfold Oper.wp
  simp [execOp, ho, resolve, invoke, builtin, hs, hx, hr, Result.andThen]
  exact hK _ _ (h v' w' h2 h3 h4)

theorem info3 : (Try.prog.info? 3).map (fun i => (i.zero, i.size, i.bytes)) = some (some (.int .i64 0), 1, 8) := by kernel_rfl
def zc : List Value := (List.replicate 64 [Value.int .i64 0, .int .u64 0, .int .i64 0]).flatten
def z64 : Value := .agg zc.toArray
theorem build43 (n : Int) (w : World) : (Instr.build 43 #[(0, .bool true), (1, .int .i64 n), (4, .int .i64 (-1))]).run Try.prog w = .ok (.agg #[.bool true, .int .i64 n, .int .i64 0, .int .i64 0, .int .i64 (-1), .slice none 0 0]) w := by kernel_rfl
theorem build75 (w : World) : (Instr.build 75 #[]).run Try.prog w = .ok z64 w := by kernel_rfl
theorem info75 : (Try.prog.info? 75).map (fun i => (i.zero, i.size, i.bytes)) = some (some z64, 192, 1536) := by kernel_rfl
theorem mk41 (w : World) : (Instr.buildSlice 41 1 #[(0, z64)]).run Try.prog w = .ok (.slice (some ⟨w.heap.size, 0, none⟩) 1 1) (w.alloc (.cells zc.toArray 75)) := by kernel_rfl
theorem wpList_b75 {w : World} {ops : Array Oper} {rest : List Oper} {o : Oper} {a : Act} {Q : Exit → Act → World → Prop} (hgd : o.guard = none) (ho : o.op = .build 75 #[])
    (h : wpList Try.prog ops Q rest (a.put o.dst z64) w) : wpList Try.prog ops Q (o :: rest) a w := by
  refine wpList_plain hgd fun K hK => ?_
  have hr := build75 w
  unfold Oper.wp
  simp only [execOp, ho]
  simp [hr, Result.andThen, Sem.run_bind]
  exact hK _ _ h
theorem wpList_m41 {w : World} {ops : Array Oper} {rest : List Oper} {o : Oper} {a : Act} {Q : Exit → Act → World → Prop} (hgd : o.guard = none) (x : Operand) (ho : o.op = .buildSlice 41 1 #[(0, x)]) (hx : a.eval x = z64)
    (h : wpList Try.prog ops Q rest (a.put o.dst (.slice (some ⟨w.heap.size, 0, none⟩) 1 1)) (w.alloc (.cells zc.toArray 75))) : wpList Try.prog ops Q (o :: rest) a w := by
  refine wpList_plain hgd fun K hK => ?_
  have hr := mk41 w
  unfold Oper.wp
  simp only [execOp, ho]
  simp [hx, hr, Result.andThen, Sem.run_bind]
  exact hK _ _ h
theorem zc_len : zc.length = 192 := by decide +kernel
theorem zc_one : ∀ u ∈ zc, u.oneCell' = true := by decide +kernel
theorem zc_at : ∀ i, i < 64 → zc[3 * i]? = some (.int .i64 0) ∧ zc[3 * i + 1]? = some (.int .u64 0) ∧ zc[3 * i + 2]? = some (.int .i64 0) := by
  intro i hi
  have h : ∀ j : Fin 64, zc[3 * j.1]? = some (.int .i64 0) ∧ zc[3 * j.1 + 1]? = some (.int .u64 0) ∧ zc[3 * j.1 + 2]? = some (.int .i64 0) := by
    intro j
    have e : zc = (List.range 64).flatMap (fun _ => [Value.int .i64 0, .int .u64 0, .int .i64 0]) := rfl
    have hj := j.2
    generalize j.1 = k at *
    have h3 : ∀ (n k : Nat), k < n → (List.replicate n [Value.int .i64 0, .int .u64 0, .int .i64 0]).flatten[3 * k]? = some (.int .i64 0) ∧ (List.replicate n [Value.int .i64 0, .int .u64 0, .int .i64 0]).flatten[3 * k + 1]? = some (.int .u64 0) ∧ (List.replicate n [Value.int .i64 0, .int .u64 0, .int .i64 0]).flatten[3 * k + 2]? = some (.int .i64 0) := by
      intro n
      induction n with
      | zero => intro k hk; omega
      | succ n ih =>
        intro k hk
        rcases k with _ | k
        · simp [List.replicate_succ]
        · have := ih k (by omega)
          rw [show 3 * (k + 1) = 3 * k + 1 + 1 + 1 by omega]
          simpa [List.replicate_succ] using this
    exact h3 64 k hj
  exact h ⟨i, hi⟩

set_option maxHeartbeats 1000000 in
theorem new_ok (n : Int) (h0 : 0 ≤ n) (h1 : n ≤ 65536) (w : World) :
    Calls Try.prog 12 #[.int .i64 n] w fun e w' => e = .returned (.tuple #[.pointer (some ⟨w.heap.size, 0, none⟩), .int .i64 0]) ∧ w' = w.alloc (.cells #[.bool true, .int .i64 n, .int .i64 0, .int .i64 0, .int .i64 (-1), .slice none 0 0] 43) := by
  have d0 : decide (n < 0) = false := by simp; omega
  have d1 : decide (65536 < n) = false := by simp; omega
  have hb := build43 n w
  clear h0 h1
  go_enter Try.func12, Try.ntmps12
  go_wp2_with fail
  go_ret2
  exact ⟨rfl, rfl⟩
set_option maxHeartbeats 1000000 in
theorem new_no (n : Int) (h : n < 0 ∨ 65536 < n) (w : World) :
    Calls Try.prog 12 #[.int .i64 n] w fun e w' => e = .returned (.tuple #[.pointer none, .int .i64 2]) ∧ w' = w := by
  by_cases h0 : n < 0
  · have d0 : decide (n < 0) = true := by simp; omega
    clear h h0
    go_enter Try.func12, Try.ntmps12
    go_wp2_with fail
    go_ret2
    exact ⟨rfl, rfl⟩
  · have d0 : decide (n < 0) = false := by simp; omega
    have d1 : decide (65536 < n) = true := by simp; omega
    clear h h0
    go_enter Try.func12, Try.ntmps12
    go_wp2_with fail
    go_ret2
    exact ⟨rfl, rfl⟩
theorem new_at {B : Nat} (n : Nat) (h1 : n ≤ 65536) (w : World) (hB : B ≤ w.heap.size) :
    Calls Try.prog 12 #[.int .i64 (n : Int)] w fun e w' => e = .returned (.tuple #[.pointer (some ⟨w.heap.size, 0, none⟩), .int .i64 0]) ∧ At B w' w.heap.size [w.heap.size] ⟨n, [], []⟩ ∧ Kp [] w w' := by
  refine (new_ok (n : Int) (by omega) (by omega) w).mono ?_
  rintro e w' ⟨rfl, rfl⟩
  refine ⟨rfl, ⟨.slice none 0 0, 0, [], 0, 0, -1, fun _ => 0, ⟨heap_alloc_new _ _, World.ownsRow_nil _ _ _ _, by simp [Value.ownBlock], hB⟩, ⟨rfl, rfl, rfl, by omega, by omega, by intro i hi; omega, by intro i hi; omega, by intro i hi; omega, trivial, by intro i h1 h2; omega⟩, ⟨by simp, h1, by simp, by simp, by simp⟩, by simp [Value.ownBlock]⟩, .of_below ((Below.refl _ _).alloc (Nat.le_refl _) _)⟩
set_option maxHeartbeats 1000000 in
theorem begin_room {B : Nat} {w : World} {b : Nat} {v : Value} {nb : Nat} {xs : List Value} {cap len begun : Nat} {top : Int} (M : Mem B w b v nb xs cap len begun top) (hr : begun < nb * 64) (hnb : nb ≤ 2000) :
    Calls Try.prog 38 #[.pointer (some ⟨b, 0, none⟩)] w fun e w' => e = .returned (.tuple #[]) ∧ Mem B w' b v nb xs cap len (begun + 1) top ∧ Kp [b] w w' := by
  obtain ⟨c0, c1, c2, c3, c4, c5⟩ := M.c
  obtain ⟨f0, f1, f2, f3, f4, f5⟩ := M.f
  have hv : v.ownBlock = none ∨ True := by cases v <;> simp
  obtain ⟨p, c, rfl⟩ : ∃ p c, v = .slice p nb c := by
    rcases M.own.2 with ⟨rfl, rfl⟩ | ⟨g, c, cur, rfl, _⟩
    · exact ⟨_, _, rfl⟩
    · exact ⟨_, _, rfl⟩
  have hM := hide M
  have d : ((begun : Int) == (nb : Int) * 64) = false := by simp; omega
  have ww : IntKind.i64.wrap ((nb : Int) * 64) = (nb : Int) * 64 := by rw [IntKind.wrap_i64]; omega
  have w2 : IntKind.i64.wrap ((begun : Int) + 1) = (begun : Int) + 1 := by rw [IntKind.wrap_i64]; omega
  clear M c0 c1 c2 c4 f0 f1 f2 f4 f5 hv hr hnb
  go_enter Try.func38, Try.ntmps38
  go_wp2_with fail
  go_quiet (fail)
  go_wp2_with fail
  go_end0
  refine ⟨rfl, ?_, (Kp.drewN [b] _ _).trans (Kp.set (o := [b]) _ _ _ (by simp)) (by simp)⟩
  have M := hM.out
  have hne : ∀ k, (Value.slice p nb c).ownBlock = some k → k ∉ [b] := by
    intro k hk hm
    simp at hm
    subst hm
    exact M.ne hk
  refine ⟨?_, (Kp.set (w.drewN nq) ⟨b, 3, none⟩ (.int .i64 ((begun : Int) + 1)) (o := [b]) (by simp)).row M.own hne, M.ne, M.ge⟩
  have hblk : (w.drewN nq).heap[b]? = some (.cells #[.bool true, .int .i64 (cap : Int), .int .i64 (len : Int), .int .i64 (begun : Int), .int .i64 top, .slice p nb c] 43 (0, 0)) := M.blk
  rw [heap_setCell_same _ _ _ _ _ _ hblk]
  simp
theorem fresh_row {w w' : World} {B e size n : Nat} {v : Value} {xs : List Value} {o : Option Nat} (h : w.ownsRow B e size v n xs) (g : w.grownBy w' o) (hn : ∀ k, v.ownBlock = some k → o ≠ some k) : w'.ownsRow B e size v n xs :=
  h.kept g (by
    cases hv : v.ownBlock with
    | none => exact .inl rfl
    | some k => exact .inr (fun e => hn k hv e.symm))
set_option maxRecDepth 100000 in
set_option maxHeartbeats 1000000 in
theorem begin_full {B : Nat} {w : World} {b : Nat} {v : Value} {nb : Nat} {xs : List Value} {cap len begun : Nat} {top : Int} (M : Mem B w b v nb xs cap len begun top) (hr : begun = nb * 64) (hnb : nb ≤ 2000) (hB : B ≤ w.heap.size) :
    Calls Try.prog 38 #[.pointer (some ⟨b, 0, none⟩)] w fun e w' => e = .returned (.tuple #[]) ∧ ∃ v', Mem B w' b v' (nb + 1) (xs ++ zc) cap len (begun + 1) top ∧ (v'.ownBlock = v.ownBlock ∨ ∃ k, v'.ownBlock = some k ∧ w.heap.size ≤ k) ∧ Kp (b :: v.ownBlock.toList) w w' := by
  obtain ⟨c0, c1, c2, c3, c4, c5⟩ := M.c
  obtain ⟨f0, f1, f2, f3, f4, f5⟩ := M.f
  obtain ⟨p, c, rfl⟩ : ∃ p c, v = .slice p nb c := by
    rcases M.own.2 with ⟨rfl, rfl⟩ | ⟨g, c, cur, rfl, _⟩
    · exact ⟨_, _, rfl⟩
    · exact ⟨_, _, rfl⟩
  have hM := hide M
  have d : ((begun : Int) == (nb : Int) * 64) = true := by simp; omega
  have ww : IntKind.i64.wrap ((nb : Int) * 64) = (nb : Int) * 64 := by rw [IntKind.wrap_i64]; omega
  have w2 : IntKind.i64.wrap ((begun : Int) + 1) = (begun : Int) + 1 := by rw [IntKind.wrap_i64]; omega
  have hB2 := hide hB
  have hr2 := hide hr
  have hnb2 := hide hnb
  clear M c0 c1 c2 c4 f0 f1 f2 f4 hr hnb hB
  go_enter Try.func38, Try.ntmps38
  go_wp2_with fail
  go_quiet (fail)
  generalize hq : w.drewN nq = wq
  have HQ := hide hq
  have c5q : wq.cell? ⟨b, 5, none⟩ = some (Value.slice p nb c) := by rw [← hq]; exact c5
  clear hq
  obtain ⟨i0, hi, hz0, hz1, hz2⟩ := info_parts info75
  have HI := hide (And.intro hi (And.intro hz0 (And.intro hz1 hz2)))
  clear hi hz0 hz1 hz2
  have MQ : Hid (Mem B wq b (.slice p nb c) nb xs cap len begun top) := by
    have M := hM.out
    rw [← HQ.out]
    exact ⟨M.blk, M.own, M.ne, M.ge⟩
  go_wp2_with (first | refine wpList_b75 rfl rfl ?_ | refine wpList_m41 rfl _ rfl rfl ?_ | (at_builtin; refine wpList_append_new _ rfl _ _ 41 rfl B 75 i0 z64 192 1536 Try.underlying41 HI.out.1 HI.out.2.1 HI.out.2.2.1 HI.out.2.2.2 (by show zc.toArray.size = 192; rw [List.size_toArray, zc_len]) (by decide) (.slice p nb c) nb xs rfl (MQ.out.own.alloc _) ⟨wq.heap.size, 0, none⟩ 1 1 zc rfl (by rw [zc_len]) (fun j u hj => by rw [Addr.add_lit, Nat.zero_add, World.cell?_alloc_new]; simpa using hj) zc_one (by have := hnb2.out; unfold maxLen; omega) (by have := hnb2.out; omega) (by have := hB2.out; rw [← HQ.out]; simp; omega) ?_) | fail)
  intro v' w' ho hg hf
  obtain ⟨p', c', rfl⟩ : ∃ p' c', v' = .slice p' (nb + 1) c' := by
    rcases ho.2 with ⟨rfl, h0⟩ | ⟨g, c, cur, rfl, _⟩
    · omega
    · exact ⟨_, _, rfl⟩
  have MQ2 := MQ.out
  have hbq := lt_of_blk MQ2.blk
  have blk : w'.heap[b]? = some (.cells #[.bool true, .int .i64 (cap : Int), .int .i64 (len : Int), .int .i64 (begun : Int), .int .i64 top, .slice p nb c] 43 (0, 0)) := by
    rw [hg.block b (by simp; omega) (fun e => MQ2.ne e.symm), heap_alloc_old _ _ _ hbq]
    exact MQ2.blk
  have c3' : w'.cell? ⟨b, 3, none⟩ = some (.int .i64 (begun : Int)) := by simp [cell_of_blk blk]
  have f3' : w'.frozen? ⟨b, 3, none⟩ = false := free_of_blk blk 3
  have f5' : w'.frozen? ⟨b, 5, none⟩ = false := free_of_blk blk 5
  have c5' : w'.cell? ⟨b, 5, none⟩ = some (.slice p nb c) := by simp [cell_of_blk blk]
  have lt5 : b < w'.heap.size := lt_of_blk blk
  have vne : (Value.slice p' (nb + 1) c').ownBlock ≠ some b := by
    intro e
    rcases hf with h1 | ⟨k, h1, h2⟩
    · exact MQ2.ne (h1.symm.trans e)
    · rw [e] at h1
      injection h1 with h1
      omega
  have HH := hide (And.intro ho (And.intro hg (And.intro hf (And.intro blk vne))))
  clear ho hg hf blk vne MQ2 lt5 c5q hbq c3 f3 f5 c5
  go_wp2_with fail
  go_end0
  obtain ⟨ho, hg, hf, blk, vne⟩ := HH.out
  have hwq : wq.heap = w.heap := by rw [← HQ.out]; rfl
  have hos : wq.os = w.os ∧ wq.tape = w.tape ∧ wq.output = w.output := by rw [← HQ.out]; exact ⟨rfl, rfl, rfl⟩
  have k1 : Kp (b :: (Value.slice p nb c).ownBlock.toList) w w' := by
    refine ⟨hg.os.trans hos.1, hg.tape.trans hos.2.1, hg.output.trans hos.2.2, ?_, fun k hk hn => ?_⟩
    · have := hg.size
      simp at this
      rw [hwq] at this
      omega
    · rw [hg.block k (by simp; rw [hwq]; omega) (fun e => hn (by rw [← e]; simp)), heap_alloc_old _ _ _ (by rw [hwq]; exact hk), hwq]
  have hf2 : (Value.slice p' (nb + 1) c').ownBlock = (Value.slice p nb c).ownBlock ∨ ∃ k, (Value.slice p' (nb + 1) c').ownBlock = some k ∧ w.heap.size ≤ k := by
    rcases hf with h1 | ⟨k, h1, h2⟩
    · exact .inl h1
    · refine .inr ⟨k, h1, ?_⟩
      try simp at h2
      rw [hwq] at h2
      omega
  refine ⟨rfl, .slice p' (nb + 1) c', ⟨?_, ?_, vne, hM.out.ge⟩, hf2, ?_⟩
  · rw [heap_setCell_same _ _ _ _ _ _ (heap_setCell_same _ _ _ _ _ _ blk)]
    simp
  · have hne : ∀ k, (Value.slice p' (nb + 1) c').ownBlock = some k → k ∉ [b] := by
      intro k hk hm
      simp at hm
      subst hm
      exact vne hk
    exact (Kp.set _ ⟨b, 3, none⟩ _ (o := [b]) (by simp)).row ((Kp.set w' ⟨b, 5, none⟩ (.slice p' (nb + 1) c') (o := [b]) (by simp)).row ho hne) hne
  · exact (k1.trans (Kp.set (o := [b]) _ _ _ (by simp)) (by simp)).trans (Kp.set (o := [b]) _ _ _ (by simp)) (by simp)
end Go.Proofs.Ytflblojmjdlhiaa
