/- What sets show: Same, Least, Size, Count, Len, Labels; New. -/
import Derived.Test.YtgnifimibonbjaaB
import Derived.Deep.OwnRows
set_option linter.unusedVariables false
set_option linter.unusedSimpArgs false
namespace Go.Proofs.Ytgnifimibonbjaa
open Go.RowKit

/-- Union, whatever the elements -/
theorem union_t {B : Nat} {w : World} {b n : Nat} {own : List Nat} {L : Nat → Nat} (h : DAt B w b own n L) (x y : Int) :
    Calls Try.prog 21 #[.pointer (some ⟨b, 0, none⟩), .int .i64 x, .int .i64 y] w fun e w' => ∃ (u : Bool) (er : Int) (L' : Nat → Nat), e = .returned (.tuple #[.bool u, .int .i64 er]) ∧ DAt B w' b own n L' ∧ Kp own w w' ∧
      ((¬ (inr n x ∧ inr n y) ∧ u = false ∧ er = 3 ∧ L' = L) ∨ (inr n x ∧ inr n y ∧ L x.toNat = L y.toNat ∧ u = false ∧ er = 0 ∧ L' = L) ∨ (inr n x ∧ inr n y ∧ L x.toNat ≠ L y.toNat ∧ u = true ∧ er = 0 ∧ L' = jn L (L x.toNat) (L y.toNat))) := by
  by_cases hr : inr n x ∧ inr n y
  · obtain ⟨h1, h2⟩ := hr
    obtain ⟨a, rfl⟩ : ∃ a : Nat, x = (a : Int) := ⟨x.toNat, by unfold inr at h1; omega⟩
    obtain ⟨c, rfl⟩ : ∃ c : Nat, y = (c : Int) := ⟨y.toNat, by unfold inr at h2; omega⟩
    have ha : a < n := by unfold inr at h1; omega
    have hc : c < n := by unfold inr at h2; omega
    by_cases he : L a = L c
    · refine (union_same h a c ha hc he).mono ?_
      rintro e w' ⟨rfl, g, k⟩
      exact ⟨_, _, _, rfl, g, k, .inr (.inl ⟨h1, h2, he, rfl, rfl, rfl⟩)⟩
    · refine (union_join h a c ha hc he).mono ?_
      rintro e w' ⟨rfl, g, k⟩
      exact ⟨_, _, _, rfl, g, k, .inr (.inr ⟨h1, h2, he, rfl, rfl, rfl⟩)⟩
  · refine (union_out h x y hr).mono ?_
    rintro e w' ⟨rfl, rfl⟩
    exact ⟨_, _, _, rfl, h, Kp.refl _ _, .inl ⟨hr, rfl, rfl, rfl⟩⟩
theorem valid_of {B : Nat} {w : World} {b n : Nat} {own : List Nat} {L : Nat → Nat} (h : DAt B w b own n L) :
    Calls Try.prog 30 #[.pointer (some ⟨b, 0, none⟩)] w fun e w' => e = .returned (.bool true) ∧ w = w' := by
  obtain ⟨vP, vS, P, Z, M, _⟩ := h
  exact valid_t b w M.c.1
set_option maxRecDepth 100000 in
set_option maxHeartbeats 4000000 in
theorem same_in {B : Nat} {w : World} {b n : Nat} {own : List Nat} {L : Nat → Nat} (h : DAt B w b own n L) (x y : Nat) (hx : x < n) (hy : y < n) :
    Calls Try.prog 24 #[.pointer (some ⟨b, 0, none⟩), .int .i64 (x : Int), .int .i64 (y : Int)] w fun e w' => e = .returned (.bool (decide (L x = L y))) ∧ DAt B w' b own n L ∧ Kp own w w' := by
  have h1 := has_t h (x : Int)
  have h2 := has_t h (y : Int)
  rw [show decide (0 ≤ (x : Int) ∧ (x : Int) < (n : Int)) = true by simp; omega] at h1
  rw [show decide (0 ≤ (y : Int) ∧ (y : Int) < (n : Int)) = true by simp; omega] at h2
  have H := hide h
  have HX := hide hx
  have HY := hide hy
  have R1 := hide (fun (w : World) (h : DAt B w b own n L) => root_t h x HX.out)
  have R2 := hide (fun (w : World) (h : DAt B w b own n L) => root_t h y HY.out)
  clear h hx hy
  generalize L x = lx at *
  generalize L y = ly at *
  go_enter Try.func24, Try.ntmps24
  go_wp2_with fail
  refine h1.mono ?_
  rintro e w' ⟨rfl, rfl⟩
  go_wp2_with fail
  refine h2.mono ?_
  rintro e w' ⟨rfl, rfl⟩
  go_wp2_with fail
  refine (R1.out _ H.out).mono ?_
  rintro e w1 ⟨rfl, g1, k1⟩
  have G1 := hide g1
  have K1 := hide k1
  clear g1 k1
  go_wp2_with fail
  refine (R2.out _ G1.out).mono ?_
  rintro e w2 ⟨rfl, g2, k2⟩
  have G2 := hide g2
  have K2 := hide k2
  clear g2 k2
  go_wp2_with fail
  go_ret
  exact ⟨by by_cases e : lx = ly
            · subst e; simp
            · have e2 : ¬ ((lx : Int) = (ly : Int)) := by omega
              simp [e, e2], G2.out, K1.out.trans K2.out (fun x hx => .inl hx)⟩
set_option maxRecDepth 100000 in
set_option maxHeartbeats 4000000 in
theorem least_in {B : Nat} {w : World} {b n : Nat} {own : List Nat} {L : Nat → Nat} (h : DAt B w b own n L) (x : Nat) (hx : x < n) :
    Calls Try.prog 23 #[.pointer (some ⟨b, 0, none⟩), .int .i64 (x : Int)] w fun e w' => e = .returned (.tuple #[.int .i64 ((L x : Nat) : Int), .int .i64 0]) ∧ DAt B w' b own n L ∧ Kp own w w' := by
  have v0 := valid_of h
  have h1 := has_t h (x : Int)
  rw [show decide (0 ≤ (x : Int) ∧ (x : Int) < (n : Int)) = true by simp; omega] at h1
  have R1 := hide (root_t h x hx)
  clear h hx
  go_enter Try.func23, Try.ntmps23
  go_wp2_with fail
  refine v0.mono ?_
  rintro e w' ⟨rfl, rfl⟩
  go_wp2_with fail
  refine h1.mono ?_
  rintro e w' ⟨rfl, rfl⟩
  go_wp2_with fail
  refine R1.out.mono ?_
  rintro e w1 ⟨rfl, g1, k1⟩
  have G1 := hide g1
  have K1 := hide k1
  clear g1 k1
  go_wp2_with fail
  go_ret2
  exact ⟨rfl, G1.out, K1.out⟩
theorem count_t {B : Nat} {w : World} {b n : Nat} {own : List Nat} {L : Nat → Nat} (h : DAt B w b own n L) :
    Calls Try.prog 13 #[.pointer (some ⟨b, 0, none⟩)] w fun e w' => e = .returned (.int .i64 ((roots L n : Nat) : Int)) ∧ w = w' := by
  have v0 := valid_of h
  obtain ⟨vP, vS, P, Z, M, _⟩ := h
  obtain ⟨c0, c1, c2, c3⟩ := M.c
  clear M c0 c2 c3
  go_enter Try.func13, Try.ntmps13
  go_wp2_with (go_at_call 30; refine v0.mono ?_; rintro e w' ⟨rfl, rfl⟩)
  go_ret
  exact ⟨rfl, rfl⟩
theorem len_t {B : Nat} {w : World} {b n : Nat} {own : List Nat} {L : Nat → Nat} (h : DAt B w b own n L) :
    Calls Try.prog 12 #[.pointer (some ⟨b, 0, none⟩)] w fun e w' => e = .returned (.int .i64 (n : Int)) ∧ w = w' := by
  have v0 := valid_of h
  obtain ⟨vP, vS, P, Z, M, _⟩ := h
  obtain ⟨c0, c1, c2, c3⟩ := M.c
  obtain ⟨p, c, rfl⟩ := row_slice M.P
  clear M c0 c1 c3
  go_enter Try.func12, Try.ntmps12
  go_wp2_with (go_at_call 30; refine v0.mono ?_; rintro e w' ⟨rfl, rfl⟩)
  go_ret
  exact ⟨rfl, rfl⟩
theorem DM.drew {B : Nat} {w : World} {b : Nat} {vP vS : Value} {n count : Nat} {P Z : Nat → Nat} (h : DM B w b vP vS n count P Z) : DM B w.drew b vP vS n count P Z := h.keep (Kp.drewN [] w 1) (by simp)
theorem DAt.drew {B : Nat} {w : World} {b n : Nat} {own : List Nat} {L : Nat → Nat} (h : DAt B w b own n L) : DAt B w.drew b own n L := h.keep (Kp.drewN [] w 1) (by simp)
set_option maxRecDepth 100000 in
set_option maxHeartbeats 4000000 in
theorem size_in {B : Nat} {w : World} {b n : Nat} {own : List Nat} {L : Nat → Nat} (h : DAt B w b own n L) (x : Nat) (hx : x < n) :
    Calls Try.prog 14 #[.pointer (some ⟨b, 0, none⟩), .int .i64 (x : Int)] w fun e w' => e = .returned (.int .i64 ((cnt L (L x) n : Nat) : Int)) ∧ DAt B w' b own n L ∧ Kp own w w' := by
  have h1 := has_t h (x : Int)
  rw [show decide (0 ≤ (x : Int) ∧ (x : Int) < (n : Int)) = true by simp; omega] at h1
  obtain ⟨vP, vS, P, Z, M, g, hn, hz, ho⟩ := h
  have HL : L x < n ∧ L (L x) = L x := ⟨by have := g.ll x hx; omega, g.idem x hx⟩
  have hzl := hz _ HL.1 HL.2
  rw [← hzl]
  have R1 := root_m M.drew g ho x hx
  obtain ⟨hl, _⟩ := HL
  generalize L x = l at *
  obtain ⟨pS, cS, rfl⟩ := row_slice M.S
  obtain ⟨gS, rfl, e1, f1, _⟩ := row_cell M.S hl
  rw [intsF_get Z hl] at e1
  have K0 : w.drew.cell? ⟨b, 3, none⟩ = some (.slice (some ⟨gS, 0, none⟩) n cS) ∧ w.drew.cell? ⟨gS, l, none⟩ = some (.int .i64 ((Z l : Nat) : Int)) := ⟨M.c.2.2.2, e1⟩
  have R2 := hide R1
  have HH := hide (And.intro hn (And.intro hz ho))
  have HL2 := hide hl
  clear M g hn hz ho hx hzl R1 e1 f1
  go_enter Try.func14, Try.ntmps14
  go_wp2_with fail
  refine h1.mono ?_
  rintro e w' ⟨rfl, rfl⟩
  go_wp2_with fail
  go_region_held3 (fun w' => w'.cell? ⟨b, 3, none⟩ = some (.slice (some ⟨gS, 0, none⟩) n cS) ∧ w'.cell? ⟨gS, l, none⟩ = some (.int .i64 ((Z l : Nat) : Int)))
    (with_reducible assumption)
    (first | (go_at_call 32; refine R2.out.mono ?_; rintro e w1 ⟨rfl, ⟨P', M1, g1⟩, k1⟩; have K1 : w1.cell? ⟨b, 3, none⟩ = some (.slice (some ⟨gS, 0, none⟩) n cS) ∧ w1.cell? ⟨gS, l, none⟩ = some (.int .i64 ((Z l : Nat) : Int)) := (by refine ⟨M1.c.2.2.2, ?_⟩; obtain ⟨_, hpp, e1, _, _⟩ := row_cell M1.S HL2.out; injection hpp with hpp; injection hpp with hpp; subst hpp; rw [intsF_get Z HL2.out] at e1; exact e1); have HM := hide (And.intro M1 g1); have HK := hide k1; clear M1 g1 k1))
  go_wp2_with fail
  go_ret
  exact ⟨rfl, ⟨_, _, _, Z, HM.out.1, HM.out.2, HH.out.1, HH.out.2.1, HH.out.2.2⟩, (Kp.drewN own w 1).trans HK.out (fun x hx => .inl hx)⟩
end Go.Proofs.Ytgnifimibonbjaa
