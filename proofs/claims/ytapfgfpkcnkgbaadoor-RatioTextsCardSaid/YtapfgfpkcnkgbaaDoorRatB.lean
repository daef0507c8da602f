import Derived.Test.YtapfgfpkcnkgbaaDoorRatA
import Derived.Test.YtapfgfpkcnkgbaaDoorNumA
import Derived.Laws.BitsAllLaws
set_option linter.unusedVariables false
set_option linter.unusedSimpArgs false
namespace Go.Proofs.YtapfgfpkcnkgbaaDoor
open Go.RowKit
theorem uw (x : Nat) : IntKind.u64.wrap (x : Int) = ((x % 18446744073709551616 : Nat) : Int) := by rw [IntKind.wrap_u64]; omega
theorem uw_in (x : Nat) (h : x < 18446744073709551616) : IntKind.u64.wrap (x : Int) = (x : Int) := IntWalk.u64_in _ ⟨by omega, by omega⟩
theorem uw_mul (a b : Nat) : IntKind.u64.wrap ((a : Int) * b) = ((a * b % 18446744073709551616 : Nat) : Int) := by rw [← Int.natCast_mul]; exact uw _
theorem uw_add (a b : Nat) : IntKind.u64.wrap ((a : Int) + b) = (((a + b) % 18446744073709551616 : Nat) : Int) := by rw [← Int.natCast_add]; exact uw _
theorem uw_sub (a b c : Nat) (h : a = (b + c) % 18446744073709551616) (hc : c < 18446744073709551616) : IntKind.u64.wrap ((a : Int) - b) = (c : Int) := by rw [IntKind.wrap_u64]; omega
theorem div_core {N S d Q R : Nat} (hS : 0 < S) (h : N * S = Q * (d * S) + R) (hR : R < d * S) : Q = N / d ∧ R / S = N % d := by
  have h1 : N * S / (d * S) = N / d := Nat.mul_div_mul_right _ _ hS
  have h2 : N * S % (d * S) = N % d * S := Nat.mul_mod_mul_right _ _ _
  have hp : 0 < d * S := by omega
  have h3 : (Q * (d * S) + R) / (d * S) = Q := by rw [Nat.mul_comm, Nat.mul_add_div hp, Nat.div_eq_of_lt hR, Nat.add_zero]
  have h4 : (Q * (d * S) + R) % (d * S) = R := by rw [Nat.mul_comm, Nat.mul_add_mod, Nat.mod_eq_of_lt hR]
  refine ⟨by rw [← h1, h, h3], ?_⟩
  have h5 : R = N % d * S := by rw [← h2, h, h4]
  rw [h5, Nat.mul_div_cancel _ hS]
/-- What a shift left by s makes of d, and of a number of two words below d times the word. -/
theorem shifted (hi lo d s : Nat) (h1 : hi < d) (hl : lo < 18446744073709551616) (hs1 : 32 ≤ s) (hs2 : s < 64) (hlo : 9223372036854775808 ≤ d * 2 ^ s) (hhi : d * 2 ^ s < 18446744073709551616) :
    ∃ y1 A B V v1 v0 : Nat, d * 2 ^ s = y1 * 4294967296 ∧ 2147483648 ≤ y1 ∧ hi * 2 ^ s = A ∧ lo / 2 ^ (64 - s) = B ∧ B < 2 ^ s ∧ lo * 2 ^ s % 18446744073709551616 = V ∧ V = v1 * 4294967296 + v0 ∧ v0 < 4294967296 ∧ v1 < 4294967296 ∧
      A + B < d * 2 ^ s ∧ (hi * 18446744073709551616 + lo) * 2 ^ s = (A + B) * 18446744073709551616 + V := by
  have hp : (2 : Nat) ^ s = 2 ^ (s - 32) * 4294967296 := by
    rw [show (4294967296 : Nat) = 2 ^ 32 by decide, ← Nat.pow_add]; congr 1; omega
  have h64 : (2 : Nat) ^ s * 2 ^ (64 - s) = 18446744073709551616 := by
    rw [← Nat.pow_add, show s + (64 - s) = 64 by omega]
  have hB : lo / 2 ^ (64 - s) < 2 ^ s := by
    rw [Nat.div_lt_iff_lt_mul (Nat.two_pow_pos _), h64]; exact hl
  have hd : lo * 2 ^ s / 18446744073709551616 = lo / 2 ^ (64 - s) := by
    rw [← h64, Nat.mul_comm lo, Nat.mul_div_mul_left _ _ (Nat.two_pow_pos _)]
  refine ⟨d * 2 ^ (s - 32), _, _, _, lo * 2 ^ s % 18446744073709551616 / 4294967296, lo * 2 ^ s % 18446744073709551616 % 4294967296, by rw [hp, Nat.mul_assoc], ?_, rfl, rfl, hB, rfl, by omega, by omega, by omega, ?_, ?_⟩
  · rw [hp, ← Nat.mul_assoc] at hlo
    omega
  · have : (hi + 1) * 2 ^ s ≤ d * 2 ^ s := Nat.mul_le_mul_right _ h1
    rw [Nat.add_mul, Nat.one_mul] at this
    omega
  · have := Nat.div_add_mod (lo * 2 ^ s) 18446744073709551616
    rw [hd] at this
    rw [Nat.add_mul, Nat.add_mul]
    generalize lo * 2 ^ s % 18446744073709551616 = m at *
    have e : hi * 18446744073709551616 * 2 ^ s = hi * 2 ^ s * 18446744073709551616 := by rw [Nat.mul_assoc, Nat.mul_comm 18446744073709551616, ← Nat.mul_assoc]
    rw [e]
    generalize hi * 2 ^ s = a at *
    generalize lo * 2 ^ s = c at *
    generalize lo / 2 ^ (64 - s) = b at *
    omega
set_option maxRecDepth 100000 in
set_option maxHeartbeats 400000 in
theorem div64_walk (hi lo d s Y y1 A B U V v1 v0 q1 p1 r1 m1 n1 a1 a2 a3 X q0 p0 r0 m0 n0 c1 Q c2 c3 c4 R R2 : Nat) (h0 : 0 < hi) (h1 : hi < d) (hs64 : s < 64)
    (HZ : Hid (∀ w, Calls Tryd.prog 45 #[.int .u64 d] w fun e w' => e = .returned (.int .i64 s) ∧ w' = w)) (w : World)
    (f1 : IntKind.u64.wrap ((d : Int) * 2 ^ s) = Y) (f2 : (Y : Int) / 4294967296 = y1) (f3 : bits .and .u64 (Y : Int) 4294967295 = 0)
    (f4 : IntKind.u64.wrap ((hi : Int) * 2 ^ s) = A) (f5 : (lo : Int) / 2 ^ (64 - s) = B) (f6 : bits .or .u64 (A : Int) (B : Int) = U)
    (f7 : IntKind.u64.wrap ((lo : Int) * 2 ^ s) = V) (f8 : (V : Int) / 4294967296 = v1) (f9 : bits .and .u64 (V : Int) 4294967295 = v0)
    (hy1 : (y1 : Int) ≠ 0) (g1 : IntKind.u64.wrap ((U : Int) / y1) = q1) (g2 : IntKind.u64.wrap ((q1 : Int) * y1) = p1) (g3 : IntKind.u64.wrap ((U : Int) - p1) = r1) (hq1 : decide ((4294967296 : Int) ≤ q1) = false)
    (g4 : IntKind.u64.wrap (4294967296 * (r1 : Int)) = m1) (g5 : IntKind.u64.wrap ((m1 : Int) + v1) = n1)
    (t1 : IntKind.u64.wrap ((U : Int) * 4294967296) = a1) (t2 : IntKind.u64.wrap ((a1 : Int) + v1) = a2) (t3 : IntKind.u64.wrap ((q1 : Int) * Y) = a3) (t4 : IntKind.u64.wrap ((a2 : Int) - a3) = X)
    (k1 : IntKind.u64.wrap ((X : Int) / y1) = q0) (k2 : IntKind.u64.wrap ((q0 : Int) * y1) = p0) (k3 : IntKind.u64.wrap ((X : Int) - p0) = r0) (hq0 : decide ((4294967296 : Int) ≤ q0) = false)
    (k4 : IntKind.u64.wrap (4294967296 * (r0 : Int)) = m0) (k5 : IntKind.u64.wrap ((m0 : Int) + v0) = n0)
    (e1 : IntKind.u64.wrap ((q1 : Int) * 4294967296) = c1) (e2 : IntKind.u64.wrap ((c1 : Int) + q0) = Q)
    (e3 : IntKind.u64.wrap ((X : Int) * 4294967296) = c2) (e4 : IntKind.u64.wrap ((c2 : Int) + v0) = c3) (e5 : IntKind.u64.wrap ((q0 : Int) * Y) = c4) (e6 : IntKind.u64.wrap ((c3 : Int) - c4) = R) (e7 : (R : Int) / 2 ^ s = R2) :
    Calls Tryd.prog 36 #[.int .u64 hi, .int .u64 lo, .int .u64 d] w fun e w' => e = .returned (.tuple #[.int .u64 Q, .int .u64 R2]) ∧ w' = w := by
  have b1 : ((d : Int) == 0) = false := by rw [beq_eq_false_iff_ne]; omega
  have b2 : ((hi : Int) == 0) = false := by rw [beq_eq_false_iff_ne]; omega
  go_enter Tryd.func36, Tryd.ntmps36
  go_wp2_with (first
    | (go_at_call 45; refine (HZ.out _).mono ?_; rintro e w1 ⟨rfl, rfl⟩))
  go_loop [15, 16] (fun q r => q = .int .u64 q1 ∧ r = .int .u64 r1) (fun _ _ => 0)
  case atStart => exact ⟨rfl, rfl⟩
  case round =>
    obtain ⟨rfl, rfl⟩ := hrel
    go_wp2
    go_loop [18, 16] (fun q r => q = .int .u64 q0 ∧ r = .int .u64 r0) (fun _ _ => 0)
    case atStart => exact ⟨rfl, rfl⟩
    case round =>
      obtain ⟨rfl, rfl⟩ := hrel
      go_wp2
      go_ret2
      exact ⟨rfl, rfl⟩
theorem and32 (x : Nat) (hx : x < 18446744073709551616) : bits .and .u64 (x : Int) 4294967295 = ((x % 4294967296 : Nat) : Int) := by
  have h := u64_and_nat x 4294967295 hx (by omega)
  have e : x &&& 4294967295 = x % 4294967296 := Nat.and_two_pow_sub_one_eq_mod x 32
  rw [e] at h
  exact h
theorem pow_cast (s : Nat) : (2 : Int) ^ s = ((2 ^ s : Nat) : Int) := by simp
theorem nonzero_of {a : Nat} (h : 0 < a) : (a : Int) ≠ 0 := by omega
theorem ret_qr {a a' b b' : Nat} (h : a = a') (h' : b = b') : Ending.returned (.tuple #[.int .u64 (a : Int), .int .u64 (b : Int)]) = Ending.returned (.tuple #[.int .u64 (a' : Int), .int .u64 (b' : Int)]) := by rw [h, h']
theorem div64_shift (hi lo d s : Nat) (h0 : 0 < hi) (h1 : hi < d) (hl : lo < 18446744073709551616) (hs1 : 32 ≤ s) (hs2 : s < 64) (hlo : 9223372036854775808 ≤ d * 2 ^ s) (hhi : d * 2 ^ s < 18446744073709551616)
    (HZ : ∀ w, Calls Tryd.prog 45 #[.int .u64 d] w fun e w' => e = .returned (.int .i64 s) ∧ w' = w) (w : World) :
    Calls Tryd.prog 36 #[.int .u64 hi, .int .u64 lo, .int .u64 d] w fun e w' => e = .returned (.tuple #[.int .u64 ((hi * 18446744073709551616 + lo) / d : Nat), .int .u64 ((hi * 18446744073709551616 + lo) % d : Nat)]) ∧ w' = w := by
  obtain ⟨y1, A, B, V, v1, v0, eY, hy1, eA, eB, hB, eV, eV2, hv0, hv1, hU, hN⟩ := shifted hi lo d s h1 hl hs1 hs2 hlo hhi
  obtain ⟨U, eU⟩ : ∃ U, U = A + B := ⟨_, rfl⟩
  obtain ⟨Y, eY0⟩ : ∃ Y, Y = d * 2 ^ s := ⟨_, rfl⟩
  rw [← eY0] at eY hU hlo hhi
  rw [← eU] at hU hN
  have hy0 : 0 < y1 := by omega
  obtain ⟨q1, eq1⟩ : ∃ q, q = U / y1 := ⟨_, rfl⟩
  obtain ⟨p1, ep1⟩ : ∃ p, p = q1 * y1 := ⟨_, rfl⟩
  obtain ⟨r1, er1⟩ : ∃ r, r = U % y1 := ⟨_, rfl⟩
  have eU1 : U = p1 + r1 := by rw [ep1, er1, eq1]; exact (Nat.div_add_mod' U y1).symm
  have hr1 : r1 < y1 := by rw [er1]; exact Nat.mod_lt _ hy0
  have hq1 : q1 < 4294967296 := by rw [eq1, Nat.div_lt_iff_lt_mul hy0, Nat.mul_comm]; omega
  obtain ⟨X, eX⟩ : ∃ X, X = r1 * 4294967296 + v1 := ⟨_, rfl⟩
  have hX : X < y1 * 4294967296 := by omega
  obtain ⟨q0, eq0⟩ : ∃ q, q = X / y1 := ⟨_, rfl⟩
  obtain ⟨p0, ep0⟩ : ∃ p, p = q0 * y1 := ⟨_, rfl⟩
  obtain ⟨r0, er0⟩ : ∃ r, r = X % y1 := ⟨_, rfl⟩
  have eX1 : X = p0 + r0 := by rw [ep0, er0, eq0]; exact (Nat.div_add_mod' X y1).symm
  have hr0 : r0 < y1 := by rw [er0]; exact Nat.mod_lt _ hy0
  have hq0 : q0 < 4294967296 := by rw [eq0, Nat.div_lt_iff_lt_mul hy0, Nat.mul_comm]; omega
  have hS : 0 < 2 ^ s := Nat.two_pow_pos _
  have eP1 : q1 * Y = p1 * 4294967296 := by rw [eY, ep1, Nat.mul_assoc]
  have eP0 : q0 * Y = p0 * 4294967296 := by rw [eY, ep0, Nat.mul_assoc]
  obtain ⟨R, eR⟩ : ∃ R, R = r0 * 4294967296 + v0 := ⟨_, rfl⟩
  have hR : R < Y := by omega
  have hfin : (hi * 18446744073709551616 + lo) * 2 ^ s = (q1 * 4294967296 + q0) * (d * 2 ^ s) + R := by
    rw [hN, ← eY0, Nat.add_mul, Nat.mul_right_comm, eP1, eP0]
    omega
  obtain ⟨E1, E2⟩ := div_core hS hfin (by rw [← eY0]; exact hR)
  rw [← E1, ← E2]
  have hor : bits .or .u64 (A : Int) (B : Int) = U := by
    rw [u64_or_nat A B (by omega) (by omega), eU, ← eA, Nat.mul_comm hi, ← Nat.two_pow_add_eq_or_of_lt hB]
  have c1 : (4294967296 : Int) = ((4294967296 : Nat) : Int) := rfl
  refine div64_walk hi lo d s Y y1 A B U V v1 v0 q1 p1 r1 (4294967296 * r1 % 18446744073709551616) ((4294967296 * r1 % 18446744073709551616 + v1) % 18446744073709551616) (U * 4294967296 % 18446744073709551616) ((U * 4294967296 % 18446744073709551616 + v1) % 18446744073709551616) (q1 * Y % 18446744073709551616) X q0 p0 r0
    (4294967296 * r0 % 18446744073709551616) ((4294967296 * r0 % 18446744073709551616 + v0) % 18446744073709551616) (q1 * 4294967296) (q1 * 4294967296 + q0) (X * 4294967296 % 18446744073709551616) ((X * 4294967296 % 18446744073709551616 + v0) % 18446744073709551616) (q0 * Y % 18446744073709551616) R (R / 2 ^ s) h0 h1 hs2 (Lib.hid HZ) w
    ?_ ?_ ?_ ?_ ?_ hor ?_ ?_ ?_ ?_ ?_ ?_ ?_ ?_ ?_ ?_ ?_ ?_ ?_ ?_ ?_ ?_ ?_ ?_ ?_ ?_ ?_ ?_ ?_ ?_ ?_ ?_ ?_
  · rw [pow_cast, ← Int.natCast_mul, ← eY0]; exact uw_in _ hhi
  · omega
  · rw [and32 Y hhi]; omega
  · rw [pow_cast, ← Int.natCast_mul, eA]; exact uw_in _ (by omega)
  · rw [pow_cast, ← eB]; rfl
  · rw [pow_cast, uw_mul, eV]
  · omega
  · rw [and32 V (by omega)]; omega
  · omega
  · rw [show (U : Int) / y1 = ((U / y1 : Nat) : Int) from rfl, ← eq1]; exact uw_in _ (by omega)
  · rw [← Int.natCast_mul, ← ep1]; exact uw_in _ (by omega)
  · exact uw_sub _ _ _ (by omega) (by omega)
  · exact decide_eq_false (by omega)
  · rw [c1, uw_mul]
  · rw [uw_add]
  · rw [c1, uw_mul]
  · rw [uw_add]
  · rw [uw_mul]
  · exact uw_sub _ _ _ (by rw [eP1]; omega) (by omega)
  · rw [show (X : Int) / y1 = ((X / y1 : Nat) : Int) from rfl, ← eq0]; exact uw_in _ (by omega)
  · rw [← Int.natCast_mul, ← ep0]; exact uw_in _ (by omega)
  · exact uw_sub _ _ _ (by omega) (by omega)
  · exact decide_eq_false (by omega)
  · rw [c1, uw_mul]
  · rw [uw_add]
  · rw [c1, uw_mul, Nat.mod_eq_of_lt (by omega)]
  · rw [uw_add, Nat.mod_eq_of_lt (by omega)]
  · rw [c1, uw_mul]
  · rw [uw_add]
  · rw [uw_mul]
  · exact uw_sub _ _ _ (by rw [eP0]; omega) (by omega)
  · rw [pow_cast]; rfl
theorem bitLen_small {d : Nat} (h0 : 0 < d) (h2 : d ≤ 1048576) : 1 ≤ Lib.bitLen d ∧ Lib.bitLen d ≤ 21 ∧ 2 ^ (Lib.bitLen d - 1) ≤ d ∧ d < 2 ^ Lib.bitLen d := by
  obtain ⟨a1, a2, a3⟩ := Lib.bitLenAux_bounds 64 d (by have : (2 : Nat) ^ 64 = 18446744073709551616 := rfl; omega) (by omega)
  refine ⟨a1, ?_, a2, a3⟩
  have h : 2 ^ (Lib.bitLen d - 1) < 2 ^ 21 := Nat.lt_of_le_of_lt a2 (by have : (2 : Nat) ^ 21 = 2097152 := rfl; omega)
  have := (Nat.pow_lt_pow_iff_right (by omega)).1 h
  omega
theorem div64_big (hi lo d : Nat) (h0 : 0 < hi) (h1 : hi < d) (h2 : d ≤ 1048576) (hl : lo < 18446744073709551616) (w : World) :
    Calls Tryd.prog 36 #[.int .u64 hi, .int .u64 lo, .int .u64 d] w fun e w' => e = .returned (.tuple #[.int .u64 ((hi * 18446744073709551616 + lo) / d : Nat), .int .u64 ((hi * 18446744073709551616 + lo) % d : Nat)]) ∧ w' = w := by
  obtain ⟨a1, a2, a3, a4⟩ := bitLen_small (show 0 < d by omega) h2
  generalize hL : Lib.bitLen d = L at *
  have e63 : (2 : Nat) ^ (L - 1) * 2 ^ (64 - L) = 9223372036854775808 := by rw [← Nat.pow_add, show L - 1 + (64 - L) = 63 by omega]
  have e64 : (2 : Nat) ^ L * 2 ^ (64 - L) = 18446744073709551616 := by rw [← Nat.pow_add, show L + (64 - L) = 64 by omega]
  refine div64_shift hi lo d (64 - L) h0 h1 hl (by omega) (by omega) ?_ ?_ ?_ w
  · rw [← e63]; exact Nat.mul_le_mul_right _ a3
  · rw [← e64]; exact Nat.mul_lt_mul_of_pos_right a4 (Nat.two_pow_pos _)
  · intro w
    have h := Tryd.bits_LeadingZeros64 (d : Int) w (by omega) (by omega)
    rw [Int.toNat_natCast, hL, show (64 - (L : Int)) = ((64 - L : Nat) : Int) by omega] at h
    exact h
set_option maxHeartbeats 400000 in
theorem div64_small (lo d : Nat) (h0 : 0 < d) (hl : lo < 18446744073709551616) (w : World) :
    Calls Tryd.prog 36 #[.int .u64 0, .int .u64 lo, .int .u64 d] w fun e w' => e = .returned (.tuple #[.int .u64 (lo / d : Nat), .int .u64 (lo % d : Nat)]) ∧ Below w.heap.size w w' := by
  have b1 : ((d : Int) == 0) = false := by rw [beq_eq_false_iff_ne]; omega
  have hd0 : (d : Int) ≠ 0 := by omega
  have hq := Nat.div_le_self lo d
  have hm := Nat.mod_le lo d
  obtain ⟨q, eq⟩ : ∃ q, q = lo / d := ⟨_, rfl⟩
  obtain ⟨r, er⟩ : ∃ r, r = lo % d := ⟨_, rfl⟩
  have q1 : IntKind.u64.wrap ((lo : Int) / d) = (q : Int) := by rw [show (lo : Int) / d = (q : Int) by rw [eq]; rfl]; exact uw_in _ (by omega)
  have q2 : (lo : Int) % d = (r : Int) := by rw [er]; rfl
  rw [← eq, ← er]
  have ER := Lib.hid er
  clear eq er hq hm
  go_enter Tryd.func36, Tryd.ntmps36
  go_wp2
  go_region
  all_goals go_wp2
  all_goals go_ret2
  all_goals exact ⟨by rw [ER.out]; rfl, (Below.refl _ _).drew⟩
theorem div64_any (hi lo d : Nat) (h1 : hi < d) (h2 : d ≤ 1048576) (hl : lo < 18446744073709551616) (w : World) :
    Calls Tryd.prog 36 #[.int .u64 hi, .int .u64 lo, .int .u64 d] w fun e w' => e = .returned (.tuple #[.int .u64 ((hi * 18446744073709551616 + lo) / d : Nat), .int .u64 ((hi * 18446744073709551616 + lo) % d : Nat)]) ∧ Below w.heap.size w w' := by
  by_cases h0 : hi = 0
  · subst h0
    have h := div64_small lo d h1 hl w
    rw [Nat.zero_mul, Nat.zero_add]
    exact h
  · exact (div64_big hi lo d (by omega) h1 h2 hl w).mono fun e w' ⟨he, hw⟩ => ⟨he, hw ▸ Below.refl _ _⟩
def upV (v n d most : Nat) : Nat := if okR n d = true then min (v * n / d + min (v * n % d) 1) most else 0
theorem up_no (v n d most : Nat) (hok : okR n d = false) (w : World) :
    Calls Tryd.prog 22 #[.int .u64 v, .agg #[.int .u64 n, .int .u64 d], .int .u64 most] w fun e w' => e = .returned (.int .u64 0) ∧ Below w.heap.size w w' := by
  have HR := Lib.hid (right_any n d)
  rw [hok] at HR
  clear hok
  go_enter Tryd.func22, Tryd.ntmps22
  go_wp2_with (first
    | (go_at_call 10; refine (HR.out _).mono ?_; rintro e w1 ⟨rfl, hb1⟩))
  go_ret
  exact ⟨rfl, (keep2 hb1 (box2 w _ _ _)).2.2.2⟩
theorem alloc_keep (w : World) (o : Obj) {B i : Nat} {v : Value} (hs : B + 1 ≤ w.heap.size) (h : w.cell? ⟨B, i, none⟩ = some v) : (w.alloc o).cell? ⟨B, i, none⟩ = some v := by
  have hb : Below w.heap.size w (w.alloc o) := (Below.refl _ _).alloc (Nat.le_refl _) _
  rw [hb.cell (p := ⟨B, i, none⟩) (by show B < _; omega)]; exact h
theorem up_far (v n d most q r : Nat) (hq : d ≤ q) (hok : okR n d = true) (P1 : Hid (∀ w : World, Calls Tryd.prog 31 #[.int .u64 v, .int .u64 n] w fun e w' => e = .returned (.agg #[.int .u64 q, .int .u64 r]) ∧ Below w.heap.size w w')) (w : World) :
    Calls Tryd.prog 22 #[.int .u64 v, .agg #[.int .u64 n, .int .u64 d], .int .u64 most] w fun e w' => e = .returned (.int .u64 most) ∧ Below w.heap.size w w' := by
  have HR := Lib.hid (right_any n d)
  rw [hok] at HR
  clear hok
  go_enter Tryd.func22, Tryd.ntmps22
  go_wp2_with (first
    | (go_at_call 10; refine (HR.out _).mono ?_; rintro e w1 ⟨rfl, hb1⟩; obtain ⟨c1, c2, s1, B1⟩ := keep2 hb1 (box2 w _ _ _))
    | (go_at_call 31; refine (P1.out _).mono ?_; rintro e w2 ⟨rfl, hb2⟩; obtain ⟨k1, k2, s2, B2⟩ := keep2 hb2 ⟨c1, c2, s1, B1⟩; have hk := fun o => alloc_keep w2 o s2 k2))
  go_ret
  exact ⟨rfl, B2.alloc (by omega) _⟩
theorem up_near (v n d most q r x y m : Nat) (hq : ¬ d ≤ q) (hd : d ≤ 1048576) (hr : r < 18446744073709551616) (hx : x < 18446744073709551616) (hm : min (y : Int) 1 = (m : Int)) (hm1 : m ≤ 1) (hok : okR n d = true)
    (P1 : Hid (∀ w : World, Calls Tryd.prog 31 #[.int .u64 v, .int .u64 n] w fun e w' => e = .returned (.agg #[.int .u64 q, .int .u64 r]) ∧ Below w.heap.size w w'))
    (PD : Hid (∀ w : World, Calls Tryd.prog 36 #[.int .u64 q, .int .u64 r, .int .u64 d] w fun e w' => e = .returned (.tuple #[.int .u64 x, .int .u64 y]) ∧ Below w.heap.size w w')) (hmost : most < 18446744073709551616) (w : World) :
    Calls Tryd.prog 22 #[.int .u64 v, .agg #[.int .u64 n, .int .u64 d], .int .u64 most] w fun e w' => e = .returned (.int .u64 (min (x + m) most : Nat)) ∧ Below w.heap.size w w' := by
  have HR := Lib.hid (right_any n d)
  rw [hok] at HR
  have HA := Lib.hid (add_any x m hx (by omega))
  clear hok
  by_cases h : x + m < 18446744073709551616
  · have e1 : (cutF (x + m) != 0) = false := by rw [cutF_yes h]; rfl
    have HE := Lib.hid (cutV_yes h)
    clear h hd hr hx
    go_enter Tryd.func22, Tryd.ntmps22
    go_wp2_with (first
      | (go_at_call 10; refine (HR.out _).mono ?_; rintro e w1 ⟨rfl, hb1⟩; obtain ⟨c1, c2, s1, B1⟩ := keep2 hb1 (box2 w _ _ _))
      | (go_at_call 31; refine (P1.out _).mono ?_; rintro e w2 ⟨rfl, hb2⟩; obtain ⟨k1, k2, s2, B2⟩ := keep2 hb2 ⟨c1, c2, s1, B1⟩; have hk := fun o => alloc_keep w2 o s2 k2)
      | (go_at_call 36; refine (PD.out _).mono ?_; rintro e w3 ⟨rfl, hb3⟩)
      | (go_at_call 37; refine (HA.out _).mono ?_; rintro e w4 ⟨rfl, rfl⟩)
      | (go_at_call 38; refine (cap_any _ _ _).mono ?_; rintro e w5 ⟨rfl, rfl⟩))
    go_ret
    refine ⟨?_, (B2.alloc (by omega) _).trans (hb3.mono (by simp; omega))⟩
    rw [HE.out]
    exact congrArg Ending.returned (int_same (by omega))
  · have e1 : (cutF (x + m) != 0) = true := by rw [cutF_no h]; rfl
    have HE := Lib.hid (show min (x + m) most = most by omega)
    rw [HE.out]
    clear h hd hr hx
    go_enter Tryd.func22, Tryd.ntmps22
    go_wp2_with (first
      | (go_at_call 10; refine (HR.out _).mono ?_; rintro e w1 ⟨rfl, hb1⟩; obtain ⟨c1, c2, s1, B1⟩ := keep2 hb1 (box2 w _ _ _))
      | (go_at_call 31; refine (P1.out _).mono ?_; rintro e w2 ⟨rfl, hb2⟩; obtain ⟨k1, k2, s2, B2⟩ := keep2 hb2 ⟨c1, c2, s1, B1⟩; have hk := fun o => alloc_keep w2 o s2 k2)
      | (go_at_call 36; refine (PD.out _).mono ?_; rintro e w3 ⟨rfl, hb3⟩)
      | (go_at_call 37; refine (HA.out _).mono ?_; rintro e w4 ⟨rfl, rfl⟩))
    go_ret
    exact ⟨rfl, (B2.alloc (by omega) _).trans (hb3.mono (by simp; omega))⟩
theorem up_any (v n d most : Nat) (hv : v < 18446744073709551616) (hn : n < 18446744073709551616) (hmost : most < 18446744073709551616) (w : World) :
    Calls Tryd.prog 22 #[.int .u64 v, .agg #[.int .u64 n, .int .u64 d], .int .u64 most] w fun e w' => e = .returned (.int .u64 (upV v n d most : Nat)) ∧ Below w.heap.size w w' := by
  unfold upV
  cases hok : okR n d
  · rw [if_neg (by simp)]; exact up_no v n d most hok w
  · rw [if_pos rfl]
    obtain ⟨hn1, hd1, hd2⟩ := okR_le hok
    obtain ⟨q, r, hq, hr, E, P⟩ := product_halves v n hv hn
    have E := E.out
    by_cases hqd : d ≤ q
    · have hge : 18446744073709551616 ≤ v * n / d := by
        refine (Nat.le_div_iff_mul_le (show 0 < d by omega)).2 ?_
        have h1 := Nat.mul_le_mul_right 18446744073709551616 hqd
        omega
      rw [show min (v * n / d + min (v * n % d) 1) most = most by omega]
      exact up_far v n d most q r hqd hok P w
    · have hx : v * n / d < 18446744073709551616 := by
        refine (Nat.div_lt_iff_lt_mul (show 0 < d by omega)).2 ?_
        have h1 := Nat.mul_le_mul_right 18446744073709551616 (show q + 1 ≤ d by omega)
        omega
      have PD := div64_any q r d (by omega) hd2 hr
      rw [E] at PD
      exact up_near v n d most q r _ _ (min (v * n % d) 1) hqd hd2 hr hx (by omega) (by omega) hok P (Lib.hid PD) hmost w
