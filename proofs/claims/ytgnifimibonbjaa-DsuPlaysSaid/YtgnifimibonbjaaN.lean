/- Two lists of lists that are the same. -/
import Derived.Test.YtgnifimibonbjaaM
set_option linter.unusedVariables false
set_option linter.unusedSimpArgs false
namespace Go.Proofs.Ytgnifimibonbjaa
open Go.RowKit

theorem RdI.slice {B : Nat} {w : World} {v : Value} {l : List Nat} (h : RdI B w v l) : ∃ p c, v = .slice p l.length c := by
  obtain ⟨p, c, h, _⟩ := h
  exact ⟨p, c, h⟩
theorem RdI.at {B : Nat} {w : World} {p : Option Addr} {n c : Nat} {l : List Nat} (h : RdI B w (.slice p n c) l) {i x : Nat} (hi : l[i]? = some x) : ∃ b off, p = some ⟨b, off, none⟩ ∧ w.cell? ⟨b, off + i, none⟩ = some (.int .i64 (x : Int)) := by
  obtain ⟨p', c', he, h⟩ := h
  injection he with h1 h2 h3
  subst h1
  rcases h with rfl | ⟨b, off, rfl, _, _, hc⟩
  · simp at hi
  · exact ⟨b, off, rfl, hc i x hi⟩
theorem Rd2.slice {B : Nat} {w : World} {v : Value} {l : List (List Nat)} (h : Rd2 B w v l) : ∃ p c, v = .slice p l.length c := by
  obtain ⟨p, c, h, _⟩ := h
  exact ⟨p, c, h⟩
theorem Rd2.at {B : Nat} {w : World} {p : Option Addr} {n c : Nat} {ll : List (List Nat)} (h : Rd2 B w (.slice p n c) ll) {i : Nat} {l : List Nat} (hi : ll[i]? = some l) : ∃ b off u, p = some ⟨b, off, none⟩ ∧ w.cell? ⟨b, off + i, none⟩ = some u ∧ RdI B w u l := by
  obtain ⟨p', c', he, h⟩ := h
  injection he with h1 h2 h3
  subst h1
  rcases h with rfl | ⟨b, off, rfl, _, _, hc⟩
  · simp at hi
  · obtain ⟨u, h1, h2⟩ := hc i l hi
    exact ⟨b, off, u, rfl, h1, h2⟩
theorem RdI.drewN {B : Nat} {w : World} {v : Value} {l : List Nat} (h : RdI B w v l) (n : Nat) : RdI B (w.drewN n) v l := h.keep (Kp.drewN [] w n) (by simp)
set_option maxRecDepth 100000 in
set_option maxHeartbeats 4000000 in
theorem same_rd {B B' : Nat} (w : World) (v1 v2 : Value) (l : List Nat) (h1 : RdI B w v1 l) (h2 : RdI B' w v2 l) (hl : l.length ≤ 65536) :
    Calls Try.prog 29 #[v1, v2] w fun e w' => e = .returned (.bool true) ∧ ∃ m, w' = w.drewN m := by
  obtain ⟨p, c, rfl⟩ := h1.slice
  obtain ⟨q, d, rfl⟩ := h2.slice
  have H1 := hide h1
  have H2 := hide h2
  have HL := hide hl
  clear h1 h2 hl
  generalize hn : l.length = n at *
  have HN := hide hn
  clear hn
  go_enter Try.func29, Try.ntmps29
  go_wp2_with fail
  go_loopw [5] (fun i wr => ∃ k : Nat, i = .int .i64 (k : Int) ∧ Hid (k ≤ n) ∧ Hid (∃ q, wr = w.drewN q)) (fun i _ => n - (intOf i).toNat)
  case atStart => exact ⟨0, rfl, Nat.zero_le _, 0, rfl⟩
  case round =>
    obtain ⟨k, rfl, hk, hq⟩ := hrel
    obtain ⟨qq, rfl⟩ := hq.out
    by_cases hlt : k < n
    · have dk : decide (k < n) = true := by simpa using hlt
      have ww : IntKind.i64.wrap ((k : Int) + 1) = (k : Int) + 1 := by have := HL.out; rw [IntKind.wrap_i64]; omega
      obtain ⟨x, hx⟩ : ∃ x, l[k]? = some x := ⟨_, List.getElem?_eq_getElem (by rw [HN.out]; exact hlt)⟩
      obtain ⟨g1, o1, rfl, e1⟩ := H1.out.at hx
      obtain ⟨g2, o2, rfl, e2⟩ := H2.out.at hx
      have HK := hide hlt
      generalize hwr : w.drewN qq = wr
      have e1' : wr.cell? ⟨g1, o1 + k, none⟩ = some (.int .i64 (x : Int)) := by rw [← hwr]; exact e1
      have e2' : wr.cell? ⟨g2, o2 + k, none⟩ = some (.int .i64 (x : Int)) := by rw [← hwr]; exact e2
      have HW := hide hwr
      clear e1 e2 hwr hx
      go_wp2_with fail
      go_quiet (fail)
      go_wp2_with fail
      go_roundw
      case rel => exact ⟨k + 1, by go_num, by have := HK.out; show k + 1 ≤ n; omega, qq + nq, by rw [← HW.out, World.drewN_drewN]⟩
      case measure => have := HK.out; simp [intOf]; omega
    · have dk : decide (k < n) = false := by simp; omega
      clear hlt
      go_wp2_with fail
      go_ret
      exact ⟨rfl, qq, rfl⟩
set_option maxRecDepth 100000 in
set_option maxHeartbeats 4000000 in
theorem groups_rd {B B' : Nat} (w : World) (v1 v2 : Value) (ll : List (List Nat)) (h1 : Rd2 B w v1 ll) (h2 : Rd2 B' w v2 ll) (hl : ll.length ≤ 65536) (hl2 : ∀ l ∈ ll, l.length ≤ 65536) :
    Calls Try.prog 18 #[v1, v2] w fun e w' => e = .returned (.bool true) ∧ ∃ m, w' = w.drewN m := by
  obtain ⟨p, c, rfl⟩ := h1.slice
  obtain ⟨q, d, rfl⟩ := h2.slice
  have H1 := hide h1
  have H2 := hide h2
  have HL := hide hl
  have HL2 := hide hl2
  clear h1 h2 hl hl2
  generalize hn : ll.length = n at *
  have HN := hide hn
  clear hn
  go_enter Try.func18, Try.ntmps18
  go_wp2_with fail
  go_loopw [5] (fun i wr => ∃ k : Nat, i = .int .i64 (k : Int) ∧ Hid (k ≤ n) ∧ Hid (∃ q, wr = w.drewN q)) (fun i _ => n - (intOf i).toNat)
  case atStart => exact ⟨0, rfl, Nat.zero_le _, 0, rfl⟩
  case round =>
    obtain ⟨k, rfl, hk, hq⟩ := hrel
    obtain ⟨qq, rfl⟩ := hq.out
    by_cases hlt : k < n
    · have dk : decide (k < n) = true := by simpa using hlt
      have ww : IntKind.i64.wrap ((k : Int) + 1) = (k : Int) + 1 := by have := HL.out; rw [IntKind.wrap_i64]; omega
      obtain ⟨l, hx⟩ : ∃ l, ll[k]? = some l := ⟨_, List.getElem?_eq_getElem (by rw [HN.out]; exact hlt)⟩
      obtain ⟨g1, o1, u1, rfl, e1, r1⟩ := H1.out.at hx
      obtain ⟨g2, o2, u2, rfl, e2, r2⟩ := H2.out.at hx
      have HK := hide hlt
      have ls := HL2.out l (List.mem_of_getElem? hx)
      have SR : Hid (∀ m, Calls Try.prog 29 #[u1, u2] ((w.drewN qq).drewN m) fun e w' => e = .returned (.bool true) ∧ ∃ m', w' = ((w.drewN qq).drewN m).drewN m') := fun m => same_rd _ u1 u2 l ((r1.drewN qq).drewN m) ((r2.drewN qq).drewN m) ls
      generalize hwr : w.drewN qq = wr at *
      have e1' : wr.cell? ⟨g1, o1 + k, none⟩ = some u1 := by rw [← hwr]; exact e1
      have e2' : wr.cell? ⟨g2, o2 + k, none⟩ = some u2 := by rw [← hwr]; exact e2
      have HW := hide hwr
      clear e1 e2 hwr hx r1 r2 ls
      go_wp2_with fail
      go_quiet ((go_at_call 29; exact Calls.quiet_of (SR.out _)))
      go_wp2_with fail
      go_roundw
      case rel => exact ⟨k + 1, by go_num, by have := HK.out; show k + 1 ≤ n; omega, qq + nq, by rw [← HW.out, World.drewN_drewN]⟩
      case measure => have := HK.out; simp [intOf]; omega
    · have dk : decide (k < n) = false := by simp; omega
      clear hlt
      go_wp2_with fail
      go_ret
      exact ⟨rfl, qq, rfl⟩
theorem grp_lens {L : Nat → Nat} {n : Nat} (hn : n ≤ 65536) : (grp L n).length ≤ 65536 ∧ ∀ l ∈ grp L n, l.length ≤ 65536 := by
  refine ⟨by rw [grp_len]; have := roots_le L n; omega, fun l hl => ?_⟩
  simp only [grp, List.mem_map] at hl
  obtain ⟨r, _, rfl⟩ := hl
  rw [memb_len]
  have := cnt_le L r n
  omega
theorem memb_congr {L M : Nat → Nat} {r n : Nat} (h : ∀ i, i < n → L i = M i) : memb L r n = memb M r n := by
  unfold memb
  apply List.filter_congr
  intro i hi
  rw [h i (List.mem_range.1 hi)]
theorem grp_congr {L M : Nat → Nat} {n : Nat} (h : ∀ i, i < n → L i = M i) : grp L n = grp M n := by
  have h1 : rts L n = rts M n := by
    unfold rts
    apply List.filter_congr
    intro i hi
    rw [h i (List.mem_range.1 hi)]
  unfold grp
  rw [h1]
  apply List.map_congr_left
  intro r _
  exact memb_congr h
end Go.Proofs.Ytgnifimibonbjaa
