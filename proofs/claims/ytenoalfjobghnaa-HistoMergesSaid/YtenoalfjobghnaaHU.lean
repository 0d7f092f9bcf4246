/- Both sides, whether New refused or not; agree. -/
import Derived.Test.YtenoalfjobghnaaHS
set_option linter.unusedVariables false
set_option linter.unusedSimpArgs false
namespace Go.Proofs.Ytenoalfjobghnaa
open Go.RowKit

theorem rcounts_n (w : World) : Calls Try.prog 35 #[.pointer none] w fun e w' => e = .returned (.slice none 0 0) ∧ w = w' := by
  have v0 := rvalid_n w
  go_enter Try.func35, Try.ntmps35
  go_wp2_with (go_at_call 40; refine v0.mono ?_; rintro e w' ⟨rfl, rfl⟩)
  go_ret
  exact ⟨rfl, rfl⟩
theorem rbounds_n (w : World) : Calls Try.prog 36 #[.pointer none] w fun e w' => e = .returned (.slice none 0 0) ∧ w = w' := by
  have v0 := rvalid_n w
  go_enter Try.func36, Try.ntmps36
  go_wp2_with (go_at_call 40; refine v0.mono ?_; rintro e w' ⟨rfl, rfl⟩)
  go_ret
  exact ⟨rfl, rfl⟩
theorem rtotal_n (w : World) : Calls Try.prog 37 #[.pointer none] w fun e w' => e = .returned (.int .i64 0) ∧ w = w' := by
  have v0 := rvalid_n w
  go_enter Try.func37, Try.ntmps37
  go_wp2_with (go_at_call 40; refine v0.mono ?_; rintro e w' ⟨rfl, rfl⟩)
  go_ret
  exact ⟨rfl, rfl⟩
theorem rbucket_n (w : World) (x : Int) : Calls Try.prog 21 #[.pointer none, .int .i64 x] w fun e w' => e = .returned (.int .i64 0) ∧ w = w' := by
  have v0 := rvalid_n w
  go_enter Try.func21, Try.ntmps21
  go_wp2_with (go_at_call 40; refine v0.mono ?_; rintro e w' ⟨rfl, rfl⟩)
  go_ret
  exact ⟨rfl, rfl⟩
theorem radd_n (w : World) (x t : Int) : Calls Try.prog 19 #[.pointer none, .int .i64 x, .int .i64 t] w fun e w' => e = .returned (.int .i64 1) ∧ w = w' := by
  have v0 := rvalid_n w
  go_enter Try.func19, Try.ntmps19
  go_wp2_with (go_at_call 40; refine v0.mono ?_; rintro e w' ⟨rfl, rfl⟩)
  go_ret
  exact ⟨rfl, rfl⟩
def ptr (a : Id) : Option Addr := some ⟨a.b, 0, none⟩
def ownB (ok : Bool) (a : Id) : List Nat := if ok then a.own else []
/-- the program's histogram, or nil -/
def HB (ok : Bool) (S : Nat) (w : World) (a : Id) (m : Nat) (V C : Nat → Int) (p : Option Addr) : Prop := (ok = true ∧ p = ptr a ∧ HI S w a m V C) ∨ (ok = false ∧ p = none)
/-- the specification's histogram, or nil -/
def RB (ok : Bool) (S : Nat) (w : World) (a : Id) (m : Nat) (V C : Nat → Int) (p : Option Addr) : Prop := (ok = true ∧ p = ptr a ∧ RI S w a m V C) ∨ (ok = false ∧ p = none)
theorem HB.keep {ok ok' : Bool} {S : Nat} {w w' : World} {a o : Id} {m : Nat} {V C : Nat → Int} {p : Option Addr} (h : HB ok S w a m V C p) (k : Kp (ownB ok' o) w w') (d : ok' = true → dis a o) : HB ok S w' a m V C p := by
  rcases h with ⟨h1, h2, h3⟩ | h
  · refine .inl ⟨h1, h2, HG.keep h3 k (fun x hx hy => ?_)⟩
    cases ok' with
    | true => exact d rfl x hx hy
    | false => simp [ownB] at hy
  · exact .inr h
theorem HB.keep0 {ok : Bool} {S : Nat} {w w' : World} {a : Id} {m : Nat} {V C : Nat → Int} {p : Option Addr} (h : HB ok S w a m V C p) (k : Kp [] w w') : HB ok S w' a m V C p := by
  rcases h with ⟨h1, h2, h3⟩ | h
  · exact .inl ⟨h1, h2, h3.keep0 k⟩
  · exact .inr h
theorem RB.keep {ok ok' : Bool} {S : Nat} {w w' : World} {a o : Id} {m : Nat} {V C : Nat → Int} {p : Option Addr} (h : RB ok S w a m V C p) (k : Kp (ownB ok' o) w w') (d : ok' = true → dis a o) : RB ok S w' a m V C p := by
  rcases h with ⟨h1, h2, h3⟩ | h
  · refine .inl ⟨h1, h2, ⟨h3.M.keep k (fun x hx hy => ?_), h3.hm, h3.nn, h3.top⟩⟩
    cases ok' with
    | true => exact d rfl x hx hy
    | false => simp [ownB] at hy
  · exact .inr h
theorem RB.keep0 {ok : Bool} {S : Nat} {w w' : World} {a : Id} {m : Nat} {V C : Nat → Int} {p : Option Addr} (h : RB ok S w a m V C p) (k : Kp [] w w') : RB ok S w' a m V C p := by
  rcases h with ⟨h1, h2, h3⟩ | h
  · exact .inl ⟨h1, h2, h3.keep0 k⟩
  · exact .inr h
theorem HB.ge {ok : Bool} {S : Nat} {w : World} {a : Id} {m : Nat} {V C : Nat → Int} {p : Option Addr} (h : HB ok S w a m V C p) : ∀ z ∈ ownB ok a, S ≤ z := by
  intro z hz
  rcases h with ⟨rfl, _, h3⟩ | ⟨rfl, _⟩
  · exact (h3.lt z (by simpa [ownB] using hz)).1
  · simp [ownB] at hz
theorem RB.ge {ok : Bool} {S : Nat} {w : World} {a : Id} {m : Nat} {V C : Nat → Int} {p : Option Addr} (h : RB ok S w a m V C p) : ∀ z ∈ ownB ok a, S ≤ z := by
  intro z hz
  rcases h with ⟨rfl, _, h3⟩ | ⟨rfl, _⟩
  · exact (h3.lt z (by simpa [ownB] using hz)).1
  · simp [ownB] at hz
theorem HB.base {ok : Bool} {S S' : Nat} {w : World} {a : Id} {m : Nat} {V C : Nat → Int} {p : Option Addr} (h : HB ok S w a m V C p) (hs : S' ≤ S) : HB ok S' w a m V C p := by
  rcases h with ⟨h1, h2, h3⟩ | h
  · exact .inl ⟨h1, h2, h3.base hs⟩
  · exact .inr h
theorem RB.base {ok : Bool} {S S' : Nat} {w : World} {a : Id} {m : Nat} {V C : Nat → Int} {p : Option Addr} (h : RB ok S w a m V C p) (hs : S' ≤ S) : RB ok S' w a m V C p := by
  rcases h with ⟨h1, h2, h3⟩ | h
  · exact .inl ⟨h1, h2, h3.base hs⟩
  · exact .inr h
def adE (ok : Bool) (C : Nat → Int) (m : Nat) (t : Int) : Int := if ok then addE C m t else 1
def adF (ok : Bool) (V : Nat → Int) (m : Nat) (C : Nat → Int) (x t : Int) : Nat → Int := if ok then addF V m C x t else C
def bkE (ok : Bool) (V : Nat → Int) (x : Int) (m : Nat) : Int := if ok then ((bk V x m : Nat) : Int) else 0
section
variable {ok : Bool} {S : Nat} {w : World} {a : Id} {m : Nat} {V C : Nat → Int} {p : Option Addr} (h : HB ok S w a m V C p)
include h
theorem add_b (x t : Int) (it : I64 t) : Calls Try.prog 18 #[.pointer p, .int .i64 x, .int .i64 t] w fun e w' => e = .returned (.int .i64 (adE ok C m t)) ∧ HB ok S w' a m V (adF ok V m C x t) p ∧ Kp (ownB ok a) w w' := by
  rcases h with ⟨rfl, rfl, h3⟩ | ⟨rfl, rfl⟩
  · refine (hadd h3 x t it).mono ?_
    rintro e w' ⟨rfl, g, k⟩
    exact ⟨rfl, .inl ⟨rfl, rfl, g⟩, k⟩
  · refine (add_f none w (.inl rfl) x t).mono ?_
    rintro e w' ⟨rfl, rfl⟩
    exact ⟨rfl, .inr ⟨rfl, rfl⟩, Kp.refl _ _⟩
theorem bucket_b (x : Int) : Calls Try.prog 20 #[.pointer p, .int .i64 x] w fun e w' => e = .returned (.int .i64 (bkE ok V x m)) ∧ Kp [] w w' := by
  rcases h with ⟨rfl, rfl, h3⟩ | ⟨rfl, rfl⟩
  · exact bucket_t h3.M h3.hm h3.inc x
  · exact bucket_n none w (.inl rfl) x
end
section
variable {ok : Bool} {S : Nat} {w : World} {a : Id} {m : Nat} {V C : Nat → Int} {p : Option Addr} (h : RB ok S w a m V C p)
include h
theorem radd_b (x t : Int) (it : I64 t) : Calls Try.prog 19 #[.pointer p, .int .i64 x, .int .i64 t] w fun e w' => e = .returned (.int .i64 (adE ok C m t)) ∧ RB ok S w' a m V (adF ok V m C x t) p ∧ Kp (ownB ok a) w w' := by
  rcases h with ⟨rfl, rfl, h3⟩ | ⟨rfl, rfl⟩
  · refine (radd h3 x t it).mono ?_
    rintro e w' ⟨rfl, g, k⟩
    exact ⟨rfl, .inl ⟨rfl, rfl, g⟩, k⟩
  · refine (radd_n w x t).mono ?_
    rintro e w' ⟨rfl, rfl⟩
    exact ⟨rfl, .inr ⟨rfl, rfl⟩, Kp.refl _ _⟩
theorem rbucket_b (x : Int) : Calls Try.prog 21 #[.pointer p, .int .i64 x] w fun e w' => e = .returned (.int .i64 (bkE ok V x m)) ∧ w = w' := by
  rcases h with ⟨rfl, rfl, h3⟩ | ⟨rfl, rfl⟩
  · exact rbucket_t h3.M h3.hm x
  · exact rbucket_n w x
end
set_option maxRecDepth 100000 in
set_option maxHeartbeats 4000000 in
theorem agree_t {S S' : Nat} {w : World} {a b : Id} {m : Nat} {V C : Nat → Int} (h : HI S w a m V C) (r : RI S' w b m V C) (x : Int) :
    Calls Try.prog 17 #[.pointer (ptr a), .pointer (ptr b), .int .i64 x] w fun e w' => e = .returned (.bool true) ∧ Kp [] w w' := by
  have hm := h.hm
  have H0 := hide h
  have R0 := hide r
  have C1 := hide (counts_t h.M hm)
  have HM0 := hide hm
  obtain ⟨m1, hm1⟩ : ∃ m1, m1 = m + 1 := ⟨_, rfl⟩
  have HM1 := hide hm1
  rw [← hm1] at C1
  clear h r hm hm1
  unfold ptr
  go_enter Try.func17, Try.ntmps17
  go_wp2_with fail
  refine C1.out.mono ?_
  rintro e w1 ⟨v1, rfl, r1, k1⟩
  obtain ⟨p1, d1, rfl⟩ := row_slice r1
  have H1 := hide (H0.out.keep0 k1)
  have R1 := hide (R0.out.keep0 k1)
  have K1 := hide k1
  have Q1 := hide r1
  have C2 := hide (rcounts_t R1.out.M HM0.out)
  rw [← HM1.out] at C2
  clear r1 k1 C1 H0 R0
  go_wp2_with fail
  refine C2.out.mono ?_
  rintro e w2 ⟨v2, rfl, r2, k2⟩
  obtain ⟨p2, d2, rfl⟩ := row_slice r2
  have H2 := hide (H1.out.keep0 k2)
  have R2 := hide (R1.out.keep0 k2)
  have K2 := hide (K1.out.trans0 k2)
  have SM := hide (same_i w2 m1 C _ _ _ _ _ _ (k2.row Q1.out (by simp)) r2 (by have := HM1.out; have := HM0.out; omega))
  clear r2 k2 C2 H1 R1 K1 Q1
  go_wp2_with fail
  refine SM.out.mono ?_
  rintro e w3 ⟨rfl, k3⟩
  have H3 := hide (H2.out.keep0 k3)
  have R3 := hide (R2.out.keep0 k3)
  have K3 := hide (K2.out.trans0 k3)
  have C1 := hide (bounds_t H3.out.M HM0.out)
  clear k3 SM H2 R2 K2
  go_wp2_with fail
  refine C1.out.mono ?_
  rintro e w4 ⟨v4, rfl, r4, k4⟩
  obtain ⟨p4, d4, rfl⟩ := row_slice r4
  have H4 := hide (H3.out.keep0 k4)
  have R4 := hide (R3.out.keep0 k4)
  have K4 := hide (K3.out.trans0 k4)
  have Q4 := hide r4
  have C2 := hide (rbounds_t R4.out.M HM0.out)
  clear r4 k4 C1 H3 R3 K3
  go_wp2_with fail
  refine C2.out.mono ?_
  rintro e w5 ⟨v5, rfl, r5, k5⟩
  obtain ⟨p5, d5, rfl⟩ := row_slice r5
  have H5 := hide (H4.out.keep0 k5)
  have R5 := hide (R4.out.keep0 k5)
  have K5 := hide (K4.out.trans0 k5)
  have SM := hide (same_i w5 m V _ _ _ _ _ _ (k5.row Q4.out (by simp)) r5 (by have := HM0.out; omega))
  clear r5 k5 C2 H4 R4 K4 Q4
  go_wp2_with fail
  refine SM.out.mono ?_
  rintro e w6 ⟨rfl, k6⟩
  have H6 := hide (H5.out.keep0 k6)
  have R6 := hide (R5.out.keep0 k6)
  have K6 := hide (K5.out.trans0 k6)
  have T1 := hide (total_t H6.out.M H6.out.hm H6.out.nn H6.out.top)
  have T2 := hide (rtotal_t R6.out.M R6.out.hm R6.out.nn R6.out.top)
  have B1 := hide (bucket_t H6.out.M H6.out.hm H6.out.inc x)
  have B2 := hide (fun W (k : Kp [] w6 W) => rbucket_t (R6.out.keep0 k).M R6.out.hm x)
  clear k6 SM H5 R5 K5
  generalize sumI C (m + 1) = z at *
  generalize bk V x m = y at *
  go_wp2_with fail
  refine T1.out.mono ?_
  rintro e w' ⟨rfl, rfl⟩
  go_wp2_with fail
  refine T2.out.mono ?_
  rintro e w' ⟨rfl, rfl⟩
  go_wp2_with fail
  refine B1.out.mono ?_
  rintro e w7 ⟨rfl, k7⟩
  have K7 := hide (K6.out.trans0 k7)
  have B3 := hide (B2.out _ k7)
  clear k7 B2 B1 T1 T2
  go_wp2_with fail
  refine B3.out.mono ?_
  rintro e w' ⟨rfl, rfl⟩
  go_wp2_with fail
  go_ret
  exact ⟨rfl, K7.out⟩
set_option maxRecDepth 100000 in
set_option maxHeartbeats 4000000 in
theorem agree_n (w : World) (x : Int) : Calls Try.prog 17 #[.pointer none, .pointer none, .int .i64 x] w fun e w' => e = .returned (.bool true) ∧ Kp [] w w' := by
  have bd : ∀ W, bad W none := fun _ => .inl rfl
  have BD := hide bd
  have S0 := hide (fun W => same_i W 0 (fun _ => 0) _ _ _ _ _ _ (World.ownsRow_nil W 0 2 1) (World.ownsRow_nil W 0 2 1) (by omega))
  clear bd
  go_enter Try.func17, Try.ntmps17
  go_wp2_with fail
  refine (counts_f _ _ (BD.out _)).mono ?_
  rintro e w' ⟨rfl, rfl⟩
  go_wp2_with fail
  refine (rcounts_n _).mono ?_
  rintro e w' ⟨rfl, rfl⟩
  go_wp2_with fail
  refine (S0.out _).mono ?_
  rintro e w1 ⟨rfl, k1⟩
  have K1 := hide k1
  clear k1
  go_wp2_with fail
  refine (bounds_f _ _ (BD.out _)).mono ?_
  rintro e w' ⟨rfl, rfl⟩
  go_wp2_with fail
  refine (rbounds_n _).mono ?_
  rintro e w' ⟨rfl, rfl⟩
  go_wp2_with fail
  refine (S0.out _).mono ?_
  rintro e w2 ⟨rfl, k2⟩
  have K2 := hide (K1.out.trans0 k2)
  clear k2
  go_wp2_with fail
  refine (total_f _ _ (BD.out _)).mono ?_
  rintro e w' ⟨rfl, rfl⟩
  go_wp2_with fail
  refine (rtotal_n _).mono ?_
  rintro e w' ⟨rfl, rfl⟩
  go_wp2_with fail
  refine (bucket_n _ _ (BD.out _) _).mono ?_
  rintro e w3 ⟨rfl, k3⟩
  have K3 := hide (K2.out.trans0 k3)
  clear k3
  go_wp2_with fail
  refine (rbucket_n _ _).mono ?_
  rintro e w' ⟨rfl, rfl⟩
  go_wp2_with fail
  go_ret
  exact ⟨rfl, K3.out⟩
theorem agree_b {ok : Bool} {S S' : Nat} {w : World} {a b : Id} {m : Nat} {V C : Nat → Int} {p q : Option Addr} (h : HB ok S w a m V C p) (r : RB ok S' w b m V C q) (x : Int) :
    Calls Try.prog 17 #[.pointer p, .pointer q, .int .i64 x] w fun e w' => e = .returned (.bool true) ∧ Kp [] w w' := by
  rcases h with ⟨rfl, rfl, h3⟩ | ⟨rfl, rfl⟩
  · rcases r with ⟨_, rfl, r3⟩ | ⟨h, _⟩
    · exact agree_t h3 r3 x
    · cases h
  · rcases r with ⟨h, _⟩ | ⟨_, rfl⟩
    · cases h
    · exact agree_n w x
/-- New, refused or not -/
def okN (n : Nat) (V : Nat → Int) : Prop := n ≤ 1024 ∧ Inc V n
theorem new_b {w : World} {p : Option Addr} {n c : Nat} {V : Nat → Int} (h : Rd1 w p n V) (ok : Bool) (hok : ok = true ↔ okN n V) :
    Calls Try.prog 15 #[.slice p n c] w fun e w' => ∃ (a : Id) (q : Option Addr), e = .returned (.tuple #[.pointer q, .int .i64 (if ok then 0 else 2)]) ∧ HB ok w.heap.size w' a n V (fun _ => 0) q ∧ Kp [] w w' := by
  cases ok with
  | true =>
    have := hok.1 rfl
    refine (new_i h this.1 this.2).mono ?_
    rintro e w' ⟨a, rfl, g, k⟩
    exact ⟨a, _, rfl, .inl ⟨rfl, rfl, g⟩, k⟩
  | false =>
    refine (new_e h (fun q => by have := hok.2 q; cases this)).mono ?_
    rintro e w' ⟨rfl, k⟩
    exact ⟨⟨0, .slice none 0 0, .slice none 0 0⟩, _, rfl, .inr ⟨rfl, rfl⟩, k⟩
theorem rnew_b {w : World} {p : Option Addr} {n c : Nat} {V : Nat → Int} (h : Rd1 w p n V) (ok : Bool) (hok : ok = true ↔ okN n V) :
    Calls Try.prog 16 #[.slice p n c] w fun e w' => ∃ (a : Id) (q : Option Addr), e = .returned (.tuple #[.pointer q, .int .i64 (if ok then 0 else 2)]) ∧ RB ok w.heap.size w' a n V (fun _ => 0) q ∧ Kp [] w w' := by
  cases ok with
  | true =>
    have := hok.1 rfl
    refine (rnew_i h this.1 this.2).mono ?_
    rintro e w' ⟨a, rfl, g, k⟩
    exact ⟨a, _, rfl, .inl ⟨rfl, rfl, g⟩, k⟩
  | false =>
    refine (rnew_e h (fun q => by have := hok.2 q; cases this)).mono ?_
    rintro e w' ⟨rfl, k⟩
    exact ⟨⟨0, .slice none 0 0, .slice none 0 0⟩, _, rfl, .inr ⟨rfl, rfl⟩, k⟩
/-- the two lie apart -/
theorem disB {ok : Bool} {S S' : Nat} {w w' : World} {a b : Id} {m : Nat} {V C V' C' : Nat → Int} {p q : Option Addr} (h : HB ok S w a m V C p) (r : RB ok S' w' b m V' C' q) (hs : w.heap.size ≤ S') : ok = true → dis a b := by
  intro e
  rcases h with ⟨_, _, h3⟩ | ⟨h, _⟩
  · rcases r with ⟨_, _, r3⟩ | ⟨r, _⟩
    · exact fun x hx hy => by have := (h3.lt x hx).2; have := (r3.lt x hy).1; omega
    · rw [e] at r; cases r
  · rw [e] at h; cases h
end Go.Proofs.Ytenoalfjobghnaa
