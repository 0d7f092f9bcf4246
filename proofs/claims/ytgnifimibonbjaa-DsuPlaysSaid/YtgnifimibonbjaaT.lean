/- The specification's sets: Groups. -/
import Derived.Test.YtgnifimibonbjaaS
set_option linter.unusedVariables false
set_option linter.unusedSimpArgs false
namespace Go.Proofs.Ytgnifimibonbjaa
open Go.RowKit

/-- the lists of a list of lists that is being built, and the list that is being filled -/
structure GS (w0 wr : World) (v one : Value) (ll : List (List Nat)) (cur : List Nat) : Prop where
  xs : ∃ xs, wr.ownsRow w0.heap.size 42 1 v ll.length xs ∧ (∀ u ∈ xs, u.oneCell' = true) ∧ ∀ (i : Nat) (l : List Nat), ll[i]? = some l → ∃ u, xs[i]? = some u ∧ wr.ownsRow w0.heap.size 3 1 u l.length (ints l) ∧ ∀ k, u.ownBlock = some k → v.ownBlock ≠ some k ∧ one.ownBlock ≠ some k
  cr : wr.ownsRow w0.heap.size 3 1 one cur.length (ints cur)
  ap : ∀ k, one.ownBlock = some k → v.ownBlock ≠ some k
  kp : Kp [] w0 wr
theorem GS.start (w : World) : GS w w (.slice none 0 0) (.slice none 0 0) [] [] :=
  ⟨⟨[], World.ownsRow_nil _ _ _ _, by simp, by simp⟩, World.ownsRow_nil _ _ _ _, (by intro k hk; cases hk), Kp.refl _ _⟩
theorem GS.nil {w0 wr : World} {v one : Value} {ll : List (List Nat)} {cur : List Nat} (h : GS w0 wr v one ll cur) : GS w0 wr v (.slice none 0 0) ll [] := by
  obtain ⟨xs, h1, h2, h3⟩ := h.xs
  exact ⟨⟨xs, h1, h2, fun i l hi => by obtain ⟨u, a, b, c⟩ := h3 i l hi; exact ⟨u, a, b, fun k hk => ⟨(c k hk).1, by simp [Value.ownBlock]⟩⟩⟩, World.ownsRow_nil _ _ _ _, (by intro k hk; cases hk), h.kp⟩
theorem ints_snoc (l : List Nat) (x : Nat) : ints (l ++ [x]) = ints l ++ [.int .i64 (x : Int)] := by simp [ints]
theorem GS.push {w0 wr w' : World} {v one one' : Value} {ll : List (List Nat)} {cur : List Nat} {x : Nat} {o : Obj} (h : GS w0 wr v one ll cur)
    (r : w'.ownsRow w0.heap.size 3 1 one' (cur.length + 1) (ints cur ++ [.int .i64 (x : Int)])) (g : (wr.alloc o).grownBy w' one.ownBlock) (hb : one'.ownBlock = one.ownBlock ∨ ∃ q, one'.ownBlock = some q ∧ (wr.alloc o).heap.size ≤ q) :
    GS w0 w' v one' ll (cur ++ [x]) := by
  obtain ⟨xs, h1, h2, h3⟩ := h.xs
  have new : ∀ k, k < wr.heap.size → one.ownBlock ≠ some k → one'.ownBlock ≠ some k := by
    intro k hk hne he
    rcases hb with hb | ⟨q, hq, hs⟩
    · exact hne (by rw [← hb]; exact he)
    · rw [he] at hq; injection hq with hq; simp at hs; omega
  have ka := Kp.alloc (o := []) wr o
  refine ⟨⟨xs, fresh_row (ka.row h1 (by simp)) g (fun k hk e => ?_), h2, fun i l hi => ?_⟩, ?_, ?_, ?_⟩
  · exact h.ap k e hk
  · obtain ⟨u, a, b, c⟩ := h3 i l hi
    refine ⟨u, a, fresh_row (ka.row b (by simp)) g (fun k hk => (c k hk).2), fun k hk => ⟨(c k hk).1, new k (b.lt k hk).2 (c k hk).2⟩⟩
  · rw [List.length_append, ints_snoc]; exact r
  · intro k hk hv
    exact new k (h1.lt k hv).2 (fun e => h.ap k e hv) hk
  · exact (h.kp.trans ka (by simp)).grown g (fun k hk => (h.cr.lt k hk).1)
theorem GS.out {w0 wr w' : World} {v one v' : Value} {ll : List (List Nat)} {cur : List Nat} {o : Obj} (h : GS w0 wr v one ll cur) (hone : one.oneCell' = true) {xs : List Value} (hx : wr.ownsRow w0.heap.size 42 1 v ll.length xs) (h2 : ∀ u ∈ xs, u.oneCell' = true) (h3 : ∀ (i : Nat) (l : List Nat), ll[i]? = some l → ∃ u, xs[i]? = some u ∧ wr.ownsRow w0.heap.size 3 1 u l.length (ints l) ∧ ∀ k, u.ownBlock = some k → v.ownBlock ≠ some k ∧ one.ownBlock ≠ some k)
    (r : w'.ownsRow w0.heap.size 42 1 v' (ll.length + 1) (xs ++ [one])) (g : (wr.alloc o).grownBy w' v.ownBlock) (hb : v'.ownBlock = v.ownBlock ∨ ∃ q, v'.ownBlock = some q ∧ (wr.alloc o).heap.size ≤ q) :
    GS w0 w' v' (.slice none 0 0) (ll ++ [cur]) [] := by
  have new : ∀ k, k < wr.heap.size → v.ownBlock ≠ some k → v'.ownBlock ≠ some k := by
    intro k hk hne he
    rcases hb with hb | ⟨q, hq, hs⟩
    · exact hne (by rw [← hb]; exact he)
    · rw [he] at hq; injection hq with hq; simp at hs; omega
  have ka := Kp.alloc (o := []) wr o
  have hl : xs.length = ll.length := by have := hx.1; omega
  refine ⟨⟨xs ++ [one], by rw [List.length_append]; exact r, ?_, fun i l hi => ?_⟩, World.ownsRow_nil _ _ _ _, (by intro k hk; cases hk), (h.kp.trans ka (by simp)).grown g (fun k hk => (hx.lt k hk).1)⟩
  · intro u hu
    rw [List.mem_append] at hu
    rcases hu with hu | hu
    · exact h2 u hu
    · simp at hu; subst hu; exact hone
  · by_cases hlt : i < ll.length
    · rw [List.getElem?_append_left hlt] at hi
      obtain ⟨u, a, b, c⟩ := h3 i l hi
      exact ⟨u, by rw [List.getElem?_append_left (by omega)]; exact a, fresh_row (ka.row b (by simp)) g (fun k hk => (c k hk).1), fun k hk => ⟨new k (b.lt k hk).2 (c k hk).1, by simp [Value.ownBlock]⟩⟩
    · rw [List.getElem?_append_right (by omega)] at hi
      have : i - ll.length = 0 := by have := (List.getElem?_eq_some_iff.1 hi).1; simp at this; omega
      rw [this] at hi
      simp at hi
      subst hi
      refine ⟨one, by rw [List.getElem?_append_right (by omega), show i - xs.length = 0 by omega]; rfl, fresh_row (ka.row h.cr (by simp)) g (fun k hk => h.ap k hk), fun k hk => ⟨new k (h.cr.lt k hk).2 (h.ap k hk), by simp [Value.ownBlock]⟩⟩
theorem GS.rd {w0 wr : World} {v one : Value} {ll : List (List Nat)} {cur : List Nat} (h : GS w0 wr v one ll cur) : Rd2 w0.heap.size wr v ll := by
  obtain ⟨xs, h1, h2, h3⟩ := h.xs
  obtain ⟨p, c, rfl⟩ := row_slice h1
  refine ⟨p, c, rfl, ?_⟩
  by_cases hl : ll = []
  · exact .inl hl
  · have h0 : 0 < ll.length := List.length_pos_iff.2 hl
    obtain ⟨g, rfl, _, _, _⟩ := row_cell h1 h0
    have hlt := h1.lt g (by simp [Value.ownBlock])
    refine .inr ⟨g, 0, rfl, hlt.1, hlt.2, fun i l hi => ?_⟩
    obtain ⟨u, a, b, c⟩ := h3 i l hi
    refine ⟨u, ?_, RdI.of_row b⟩
    have := (List.getElem?_eq_some_iff.1 hi).1
    have hl2 := h1.1
    rw [Nat.zero_add, h1.cellAt i (by omega)]
    exact a
/-- the groups of the roots below m -/
def grpU (L : Nat → Nat) (n m : Nat) : List (List Nat) := (rts L m).map fun r => memb L r n
theorem grpU_succ (L : Nat → Nat) (n m : Nat) : grpU L n (m + 1) = grpU L n m ++ if L m = m then [memb L m n] else [] := by
  unfold grpU
  rw [rts_succ, List.map_append]
  split <;> rfl
theorem memb_none {L : Nat → Nat} {i n : Nat} (ll : ∀ j, j < n → L j ≤ j) (hi : i ≤ n) : memb L i i = [] := by
  apply List.eq_nil_of_length_eq_zero
  rw [memb_len]
  exact cnt_none (fun j hj => ll j (by omega))
theorem grpU_len (L : Nat → Nat) (n m : Nat) : (grpU L n m).length ≤ m := by
  simp only [grpU, List.length_map, rts_len]; exact roots_le L m
set_option maxRecDepth 100000 in
set_option maxHeartbeats 16000000 in
theorem sgroups_t {B : Nat} {w : World} {b n : Nat} {own : List Nat} {L : Nat → Nat} (h : SAt B w b own n L) (hll : ∀ i, i < n → L i ≤ i) :
    Calls Try.prog 20 #[.pointer (some ⟨b, 0, none⟩)] w fun e w' => ∃ v, e = .returned v ∧ Rd2 w.heap.size w' v (grp L n) ∧ Kp [] w w' := by
  obtain ⟨v, M, hn, hown⟩ := h
  obtain ⟨c0, c1⟩ := M.c
  have v0 := svalid_t b w c0
  obtain ⟨p, c, rfl⟩ := row_slice M.row
  have HM := hide M
  have HN := hide hn
  have HLL := hide hll
  obtain ⟨i0, hi, hz0, hz1, hz2⟩ := info_parts info3
  have HI := hide (And.intro hi (And.intro hz0 (And.intro hz1 hz2)))
  obtain ⟨j0, ji, jz0, jz1, jz2⟩ := info_parts info42
  have HJ := hide (And.intro ji (And.intro jz0 (And.intro jz1 jz2)))
  clear M c0 hn hll hown hi hz0 hz1 hz2 ji jz0 jz1 jz2
  go_enter Try.func20, Try.ntmps20
  go_wp2_with (go_at_call 39; refine v0.mono ?_; rintro e w' ⟨rfl, rfl⟩)
  clear v0 c1
  go_loopw [3, 4] (fun vo x wr => ∃ i : Nat, i ≤ n ∧ x = .int .i64 (i : Int) ∧ Hid (GS w wr vo (.slice none 0 0) (grpU L n i) [])) (fun _ x _ => n - (intOf x).toNat)
  case atStart => exact ⟨0, by omega, rfl, GS.start w⟩
  case round =>
    obtain ⟨i, hi, rfl, hG⟩ := hrel
    have MM := hide (HM.out.keep (o := []) hG.out.kp (by simp))
    have c1 := MM.out.c.2
    by_cases hin : i < n
    · have dk : decide (i < n) = true := by simp; omega
      have dki : decide ((i : Int) < (n : Int)) = true := by simp; omega
      have wi : IntKind.i64.wrap ((i : Int) + 1) = ((i + 1 : Nat) : Int) := by have := HN.out; rw [IntKind.wrap_i64]; omega
      obtain ⟨g, rfl, e1, -, -⟩ := row_cell MM.out.row hin
      rw [intsF_get _ hin] at e1
      by_cases hr : L i = i
      · rw [hr] at e1
        have HR := hide hr
        clear hr
        obtain ⟨wo, hwo⟩ : ∃ wo : World, wo = wr := ⟨_, rfl⟩
        rw [← hwo] at hG MM c1 e1 ⊢
        clear hwo
        go_wp2_with fail
        go_loopw [5, 6] (fun v1 x wr => ∃ k : Nat, i ≤ k ∧ k ≤ n ∧ x = .int .i64 (k : Int) ∧ Hid (GS w wr u3 v1 (grpU L n i) (memb L i k))) (fun _ x _ => n - (intOf x).toNat)
        case atStart => exact ⟨i, by omega, by omega, rfl, by rw [memb_none HLL.out (by omega)]; exact hG⟩
        case round =>
          obtain ⟨k, hik, hk, rfl, hG⟩ := hrel
          have MK := hide (HM.out.keep (o := []) hG.out.kp (by simp))
          have c2 := MK.out.c.2
          by_cases hkn : k < n
          · have dj : decide (k < n) = true := by simp; omega
            have dji : decide ((k : Int) < (n : Int)) = true := by simp; omega
            have wk : IntKind.i64.wrap ((k : Int) + 1) = ((k + 1 : Nat) : Int) := by have := HN.out; rw [IntKind.wrap_i64]; omega
            obtain ⟨_, hpp, e2, -, -⟩ := row_cell MK.out.row hkn
            injection hpp with hpp; injection hpp with hpp; subst hpp
            rw [intsF_get _ hkn] at e2
            by_cases hki : L k = i
            · rw [hki] at e2
              have HS := hide (show memb L i (k + 1) = memb L i k ++ [k] by rw [memb_succ, if_pos hki])
              have SN := hide (src_new wr wr.heap.size rfl [.int .i64 (k : Int)] 3)
              have ML := hide (show (memb L i k).length ≤ 65536 by rw [memb_len]; have := cnt_le L i k; have := HN.out; omega)
              clear hki
              go_wp2_with (at_builtin; refine wpList_append_new _ rfl _ _ 42 rfl w.heap.size 3 i0 (.int .i64 0) 1 8 Try.underlying42 HI.out.1 HI.out.2.1 HI.out.2.2.1 HI.out.2.2.2 rfl (by decide) u5 (memb L i k).length (ints (memb L i k)) rfl (hG.out.cr.alloc _) ⟨wr.heap.size, 0, none⟩ 1 1 [.int .i64 (k : Int)] rfl rfl SN.out (by intro u hu; simp at hu; subst hu; rfl) (by have := ML.out; unfold maxLen; omega) (by have := ML.out; omega) (by have := hG.out.kp.size; simp; omega) ?_; intro v' w1 r1 g1 o1; have NG := hide (show GS w w1 u3 v' (grpU L n i) (memb L i (k + 1)) from (by rw [HS.out]; exact hG.out.push r1 g1 o1)); clear r1 g1 o1)
              go_roundw
              case rel => exact ⟨k + 1, by omega, by omega, rfl, NG⟩
              case measure => simp [intOf]; omega
            · have de : (((L k : Nat) : Int) == (i : Int)) = false := by simp; omega
              have HS := hide (show memb L i (k + 1) = memb L i k by rw [memb_succ, if_neg hki, List.append_nil])
              generalize L k = lk at *
              clear hki
              go_wp2_with fail
              go_roundw
              case rel => exact ⟨k + 1, by omega, by omega, rfl, by rw [HS.out]; exact hG⟩
              case measure => simp [intOf]; omega
          · have : k = n := by omega
            subst this
            have dj : decide (k < k) = false := by simp
            have dji : decide ((k : Int) < (k : Int)) = false := by simp
            obtain ⟨xs, x1, x2, x3⟩ := hG.out.xs
            have HX := hide (And.intro x1 (And.intro x2 x3))
            obtain ⟨q5, d5, h5⟩ := row_slice hG.out.cr
            subst h5
            have SN := hide (src_new wr wr.heap.size rfl [.slice q5 (memb L i k).length d5] 42)
            have GL := hide (show (grpU L k i).length ≤ 65536 by have := grpU_len L k i; have := HN.out; omega)
            have HS := hide (show grpU L k (i + 1) = grpU L k i ++ [memb L i k] by rw [grpU_succ, if_pos HR.out])
            clear x1 x2 x3
            go_wp2_with (at_builtin; refine wpList_append_new _ rfl _ _ 34 rfl w.heap.size 42 j0 (.slice none 0 0) 1 24 Try.underlying34 HJ.out.1 HJ.out.2.1 HJ.out.2.2.1 HJ.out.2.2.2 rfl (by decide) u3 (grpU L k i).length xs rfl (HX.out.1.alloc _) ⟨wr.heap.size, 0, none⟩ 1 1 [.slice q5 (memb L i k).length d5] rfl rfl SN.out (by intro u hu; simp at hu; subst hu; rfl) (by have := GL.out; unfold maxLen; omega) (by have := GL.out; omega) (by have := hG.out.kp.size; simp; omega) ?_; intro v' w1 r1 g1 o1; have NG := hide (show GS w w1 v' (.slice none 0 0) (grpU L k (i + 1)) [] from (by rw [HS.out]; exact hG.out.out rfl HX.out.1 HX.out.2.1 HX.out.2.2 r1 g1 o1)); clear r1 g1 o1)
            go_roundw
            case rel => exact ⟨i + 1, by omega, rfl, NG⟩
            case measure => simp [intOf]; omega
      · have de : (((L i : Nat) : Int) == (i : Int)) = false := by simp; omega
        have HS := hide (show grpU L n (i + 1) = grpU L n i by rw [grpU_succ, if_neg hr, List.append_nil])
        have ne : L i ≠ i := hr
        generalize L i = li at *
        go_wp2_with fail
        go_roundw
        case rel => exact ⟨i + 1, by omega, rfl, by rw [HS.out]; exact hG⟩
        case measure => simp [intOf]; omega
    · have : i = n := by omega
      subst this
      have dk : decide (i < i) = false := by simp
      have dki : decide ((i : Int) < (i : Int)) = false := by simp
      go_wp2_with fail
      go_ret
      exact ⟨_, rfl, hG.out.rd, hG.out.kp⟩
end Go.Proofs.Ytgnifimibonbjaa
