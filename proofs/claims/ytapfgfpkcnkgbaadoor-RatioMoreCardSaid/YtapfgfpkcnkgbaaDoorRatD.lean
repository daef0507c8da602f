import Derived.Test.YtapfgfpkcnkgbaaDoorRatB
import Derived.Test.YtapfgfpkcnkgbaaDoorRatC
set_option linter.unusedVariables false
set_option linter.unusedSimpArgs false
namespace Go.Proofs.YtapfgfpkcnkgbaaDoor
open Go.RowKit
theorem alloc_keep2 (w : World) (o o' : Obj) {B i : Nat} {v : Value} (hs : B + 1 ≤ w.heap.size) (h : w.cell? ⟨B, i, none⟩ = some v) : ((w.alloc o).alloc o').cell? ⟨B, i, none⟩ = some v :=
  alloc_keep (w.alloc o) o' (by simp; omega) (alloc_keep w o hs h)
theorem rup_no (v n d most : Nat) (hok : okR n d = false) (w : World) :
    Calls Tryd.prog 23 #[.int .u64 v, .agg #[.int .u64 n, .int .u64 d], .int .u64 most] w fun e w' => e = .returned (.int .u64 0) ∧ Below w.heap.size w w' := by
  have HR := Lib.hid (rright_any n d)
  rw [hok] at HR
  clear hok
  go_enter Tryd.func23, Tryd.ntmps23
  go_wp2_with (first
    | (go_at_call 11; refine (HR.out _).mono ?_; rintro e w1 ⟨rfl, hb1⟩))
  go_ret
  exact ⟨rfl, (keep2 hb1 (box2 w _ _ _)).2.2.2⟩
set_option maxHeartbeats 400000 in
theorem rup_walk (v n d most p2 p1 p0 q2 r2 z2 x1 q1 r1 z1 x0 q0 r0 z0 nn mm : Nat) (hok : okR n d = true) (hd0 : (d : Int) ≠ 0)
    (P1 : Hid (∀ w : World, Calls Tryd.prog 35 #[.int .u64 v, .int .u64 n] w fun e w' => e = .returned (.agg #[.int .u64 p2, .int .u64 p1, .int .u64 p0]) ∧ Below w.heap.size w w')) (w : World)
    (f1 : IntKind.u64.wrap (p2 : Int) = p2) (f2 : IntKind.u64.wrap ((p2 : Int) / d) = q2) (f3 : (p2 : Int) % d = r2) (f4 : IntKind.u64.wrap ((r2 : Int) * 4294967296) = z2) (f5 : IntKind.u64.wrap ((z2 : Int) + p1) = x1)
    (f6 : IntKind.u64.wrap ((x1 : Int) / d) = q1) (f7 : (x1 : Int) % d = r1) (f8 : IntKind.u64.wrap ((r1 : Int) * 4294967296) = z1) (f9 : IntKind.u64.wrap ((z1 : Int) + p0) = x0)
    (f10 : IntKind.u64.wrap ((x0 : Int) / d) = q0) (f11 : (x0 : Int) % d = r0) (f12 : IntKind.u64.wrap ((q1 : Int) * 4294967296) = z0) (f13 : IntKind.u64.wrap ((z0 : Int) + q0) = nn) (f14 : IntKind.u64.wrap ((nn : Int) + 1) = mm) :
    Calls Tryd.prog 23 #[.int .u64 v, .agg #[.int .u64 n, .int .u64 d], .int .u64 most] w fun e w' => e = .returned (.int .u64 (if 0 < q2 then most else if 0 < r0 then (if ((nn : Int) == 18446744073709551615) = true then most else min mm most) else min nn most : Nat)) ∧ Below w.heap.size w w' := by
  have HR := Lib.hid (rright_any n d)
  rw [hok] at HR
  clear hok
  go_enter Tryd.func23, Tryd.ntmps23
  go_wp2_with (first
    | (go_at_call 11; refine (HR.out _).mono ?_; rintro e w1 ⟨rfl, hb1⟩; obtain ⟨c1, c2, s1, B1⟩ := keep2 hb1 (box2 w _ _ _))
    | (go_at_call 35; refine (P1.out _).mono ?_; rintro e w2 ⟨rfl, hb2⟩; obtain ⟨k1, k2, s2, B2⟩ := keep2 hb2 ⟨c1, c2, s1, B1⟩; have hk := fun o => alloc_keep w2 o s2 k2; have hkk := fun o o' => alloc_keep2 w2 o o' s2 k2))
  refine wp_loop_rounds 4 ?_
  rw [rounds_succ]
  go_wp2
  rw [rounds_succ]
  go_wp2
  rw [rounds_succ]
  go_wp2
  rw [rounds_succ]
  go_wp2
  all_goals go_ret
  all_goals refine ⟨?_, (B2.alloc (by omega) _).alloc (by simp; omega) _⟩
  all_goals first | rfl | exact congrArg Ending.returned (congrArg (Value.int IntKind.u64) (by omega))
theorem nat_ret {a b : Nat} (h : a = b) : Ending.returned (.int .u64 (a : Int)) = Ending.returned (.int .u64 (b : Int)) := by rw [h]
theorem if_same {c : Prop} [Decidable c] {a b x : Nat} (h1 : c → a = x) (h2 : ¬ c → b = x) : (if c then a else b) = x := by
  split
  · exact h1 ‹_›
  · exact h2 ‹_›
theorem up_final (q2 q1 q0 r0 most : Nat) (s1 : q1 < 4294967296) (s0 : q0 < 4294967296) (hm : most < 18446744073709551616) :
    (if 0 < q2 then most else if 0 < r0 then (if ((((q1 * 4294967296 + q0 : Nat) : Int) == 18446744073709551615) = true) then most else min ((q1 * 4294967296 + q0 + 1) % 18446744073709551616) most) else min (q1 * 4294967296 + q0) most) = min (q2 * 18446744073709551616 + q1 * 4294967296 + q0 + min r0 1) most := by
  refine if_same (fun h => ?_) (fun h => if_same (fun h1 => if_same (fun h2 => ?_) (fun h2 => ?_)) (fun h1 => ?_))
  · omega
  · have := (beq_iff_eq.1 h2 : ((q1 * 4294967296 + q0 : Nat) : Int) = 18446744073709551615)
    omega
  · have : ¬ ((q1 * 4294967296 + q0 : Nat) : Int) = 18446744073709551615 := fun x => h2 (beq_iff_eq.2 x)
    omega
  · omega
theorem rup_any (v n d most : Nat) (hv : v < 18446744073709551616) (hmost : most < 18446744073709551616) (w : World) :
    Calls Tryd.prog 23 #[.int .u64 v, .agg #[.int .u64 n, .int .u64 d], .int .u64 most] w fun e w' => e = .returned (.int .u64 (upV v n d most : Nat)) ∧ Below w.heap.size w w' := by
  unfold upV
  cases hok : okR n d
  · rw [if_neg (by simp)]; exact rup_no v n d most hok w
  · rw [if_pos rfl]
    obtain ⟨hn1, hd1, hd2⟩ := okR_le hok
    have P1 := times_any v n hv (by omega)
    have hN : v * n ≤ 18446744073709551615 * 1048576 := Nat.mul_le_mul (by omega) hn1
    obtain ⟨N, eN⟩ : ∃ N, N = v * n := ⟨_, rfl⟩
    rw [← eN] at P1 hN ⊢
    clear eN hv
    obtain ⟨p2, e2⟩ : ∃ x, x = dg2 N := ⟨_, rfl⟩
    obtain ⟨p1, e1⟩ : ∃ x, x = dg1 N := ⟨_, rfl⟩
    obtain ⟨p0, e0⟩ : ∃ x, x = dg0 N := ⟨_, rfl⟩
    rw [← e2, ← e1, ← e0] at P1
    unfold dg2 dg1 dg0 at *
    have eN : N = p2 * 18446744073709551616 + p1 * 4294967296 + p0 := by omega
    have b2 : p2 ≤ 1048576 := by omega
    have b1 : p1 < 4294967296 := by omega
    have b0 : p0 < 4294967296 := by omega
    clear e2 e1 e0 hN
    obtain ⟨q2, r2, g2, l2⟩ : ∃ q r, q * d + r = p2 ∧ r < d := ⟨p2 / d, p2 % d, Nat.div_add_mod' _ _, Nat.mod_lt _ (by omega)⟩
    obtain ⟨q1, r1, g1, l1⟩ : ∃ q r, q * d + r = r2 * 4294967296 + p1 ∧ r < d := ⟨(r2 * 4294967296 + p1) / d, (r2 * 4294967296 + p1) % d, Nat.div_add_mod' _ _, Nat.mod_lt _ (by omega)⟩
    obtain ⟨q0, r0, g0, l0⟩ : ∃ q r, q * d + r = r1 * 4294967296 + p0 ∧ r < d := ⟨(r1 * 4294967296 + p0) / d, (r1 * 4294967296 + p0) % d, Nat.div_add_mod' _ _, Nat.mod_lt _ (by omega)⟩
    have dv : ∀ {x q r : Nat}, q * d + r = x → r < d → x / d = q ∧ x % d = r := fun {x q r} h hr => by
      subst h
      exact ⟨by rw [Nat.mul_comm, Nat.mul_add_div (by omega), Nat.div_eq_of_lt hr, Nat.add_zero], by rw [Nat.mul_comm, Nat.mul_add_mod, Nat.mod_eq_of_lt hr]⟩
    have small : ∀ {q r p : Nat}, q * d + r = p → p < d * 4294967296 → q < 4294967296 := fun {q r p} h hp => by
      refine Nat.lt_of_mul_lt_mul_right (a := d) ?_
      rw [Nat.mul_comm 4294967296]
      omega
    have s1 : q1 < 4294967296 := small g1 (by have := Nat.mul_le_mul_right 4294967296 (show r2 + 1 ≤ d by omega); omega)
    have s0 : q0 < 4294967296 := small g0 (by have := Nat.mul_le_mul_right 4294967296 (show r1 + 1 ≤ d by omega); omega)
    have eF : (q2 * 18446744073709551616 + q1 * 4294967296 + q0) * d + r0 = N := by
      rw [eN, Nat.add_mul, Nat.add_mul, Nat.mul_right_comm, Nat.mul_right_comm q1]
      omega
    obtain ⟨F1, F2⟩ := dv eF l0
    rw [F1, F2]
    obtain ⟨D2, M2⟩ := dv g2 l2
    obtain ⟨D1, M1⟩ := dv g1 l1
    obtain ⟨D0, M0⟩ := dv g0 l0
    have hq2 : q2 ≤ p2 := by rw [← D2]; exact Nat.div_le_self _ _
    have W := rup_walk v n d most p2 p1 p0 q2 r2 (r2 * 4294967296) (r2 * 4294967296 + p1) q1 r1 (r1 * 4294967296) (r1 * 4294967296 + p0) q0 r0 (q1 * 4294967296) (q1 * 4294967296 + q0) ((q1 * 4294967296 + q0 + 1) % 18446744073709551616) hok (by omega) (Lib.hid P1) w
      (uw_in _ (by omega)) (by rw [show (p2 : Int) / d = ((p2 / d : Nat) : Int) from rfl, D2]; exact uw_in _ (by omega)) (by rw [show (p2 : Int) % d = ((p2 % d : Nat) : Int) from rfl, M2])
      (by rw [show (r2 : Int) * 4294967296 = ((r2 * 4294967296 : Nat) : Int) from rfl]; exact uw_in _ (by omega)) (by rw [← Int.natCast_add]; exact uw_in _ (by omega))
      (by rw [show ((r2 * 4294967296 + p1 : Nat) : Int) / d = (((r2 * 4294967296 + p1) / d : Nat) : Int) from rfl, D1]; exact uw_in _ (by omega)) (by rw [show ((r2 * 4294967296 + p1 : Nat) : Int) % d = (((r2 * 4294967296 + p1) % d : Nat) : Int) from rfl, M1])
      (by rw [show (r1 : Int) * 4294967296 = ((r1 * 4294967296 : Nat) : Int) from rfl]; exact uw_in _ (by omega)) (by rw [← Int.natCast_add]; exact uw_in _ (by omega))
      (by rw [show ((r1 * 4294967296 + p0 : Nat) : Int) / d = (((r1 * 4294967296 + p0) / d : Nat) : Int) from rfl, D0]; exact uw_in _ (by omega)) (by rw [show ((r1 * 4294967296 + p0 : Nat) : Int) % d = (((r1 * 4294967296 + p0) % d : Nat) : Int) from rfl, M0])
      (by rw [show (q1 : Int) * 4294967296 = ((q1 * 4294967296 : Nat) : Int) from rfl]; exact uw_in _ (by omega)) (by rw [← Int.natCast_add]; exact uw_in _ (by omega)) (by rw [show ((q1 * 4294967296 + q0 : Nat) : Int) + 1 = ((q1 * 4294967296 + q0 + 1 : Nat) : Int) from rfl]; exact uw _)
    refine W.mono fun e w' ⟨he, hw⟩ => ⟨?_, hw⟩
    rw [he]
    exact nat_ret (up_final q2 q1 q0 r0 most s1 s0 hmost)
