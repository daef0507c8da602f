import Derived.Test.YtapfgfpkcnkgbaaDoorRatA
import Derived.BigQuiet
import Derived.Deep.QuietTactic
import Derived.LoopN
import Derived.Deep.RegionHeld3
set_option linter.unusedVariables false
set_option linter.unusedSimpArgs false
namespace Go.Proofs.YtapfgfpkcnkgbaaDoor
open Go.RowKit
theorem rright_any (n d : Nat) (w : World) :
    Calls Tryd.prog 11 #[.agg #[.int .u64 n, .int .u64 d]] w fun e w' => e = .returned (.bool (okR n d)) ∧ Below w.heap.size w w' := by
  go_enter Tryd.func11, Tryd.ntmps11
  go_wp2
  all_goals go_ret
  all_goals refine ⟨congrArg Ending.returned (congrArg Value.bool ?_), (Below.refl _ _).alloc (Nat.le_refl _) _⟩
  all_goals rw [Bool.eq_iff_iff]
  all_goals simp [okR]
  all_goals omega
theorem times_walk (a b al L ah H h0 l1 M h1 m1 d2 d1 d0 : Nat) (w : World)
    (f1 : (a : Int) % 4294967296 = al) (f2 : IntKind.u64.wrap ((al : Int) * b) = L) (f3 : (a : Int) / 4294967296 = ah) (f4 : IntKind.u64.wrap ((ah : Int) * b) = H)
    (f5 : (H : Int) % 4294967296 = h0) (f6 : (L : Int) / 4294967296 = l1) (f7 : IntKind.u64.wrap ((h0 : Int) + l1) = M) (f8 : (H : Int) / 4294967296 = h1)
    (f9 : (M : Int) / 4294967296 = m1) (f10 : IntKind.u64.wrap ((h1 : Int) + m1) = d2) (f11 : (M : Int) % 4294967296 = d1) (f12 : (L : Int) % 4294967296 = d0) :
    Calls Tryd.prog 35 #[.int .u64 a, .int .u64 b] w fun e w' => e = .returned (.agg #[.int .u64 d2, .int .u64 d1, .int .u64 d0]) ∧ Below w.heap.size w w' := by
  go_enter Tryd.func35, Tryd.ntmps35
  go_wp2
  refine bodyPost_ret (v := .agg #[.int .u64 d2, .int .u64 d1, .int .u64 d0]) ?_ rfl ⟨rfl, (Below.refl _ _).alloc (Nat.le_refl _) _⟩
  simp [results, Tryd.results35, go_sem]
def dg2 (x : Nat) : Nat := x / 18446744073709551616
def dg1 (x : Nat) : Nat := x / 4294967296 % 4294967296
def dg0 (x : Nat) : Nat := x % 4294967296
theorem wrap_in (x : Nat) (h : x < 18446744073709551616) : IntKind.u64.wrap (x : Int) = (x : Int) := IntWalk.u64_in _ ⟨by omega, by omega⟩
theorem times_any (a b : Nat) (ha : a < 18446744073709551616) (hb : b < 4294967296) (w : World) :
    Calls Tryd.prog 35 #[.int .u64 a, .int .u64 b] w fun e w' => e = .returned (.agg #[.int .u64 (dg2 (a * b) : Nat), .int .u64 (dg1 (a * b) : Nat), .int .u64 (dg0 (a * b) : Nat)]) ∧ Below w.heap.size w w' := by
  obtain ⟨al, eal⟩ : ∃ x, x = a % 4294967296 := ⟨_, rfl⟩
  obtain ⟨ah, eah⟩ : ∃ x, x = a / 4294967296 := ⟨_, rfl⟩
  obtain ⟨L, eL⟩ : ∃ x, x = al * b := ⟨_, rfl⟩
  obtain ⟨H, eH⟩ : ∃ x, x = ah * b := ⟨_, rfl⟩
  have hL : L ≤ 4294967295 * 4294967295 := by rw [eL]; exact Nat.mul_le_mul (by omega) (by omega)
  have hH : H ≤ 4294967295 * 4294967295 := by rw [eH]; exact Nat.mul_le_mul (by omega) (by omega)
  have e : a * b = H * 4294967296 + L := by
    have : a = ah * 4294967296 + al := by omega
    rw [eH, eL, this, Nat.add_mul, Nat.mul_right_comm]
  rw [e]
  unfold dg2 dg1 dg0
  refine times_walk a b al L ah H (H % 4294967296) (L / 4294967296) (H % 4294967296 + L / 4294967296) (H / 4294967296) ((H % 4294967296 + L / 4294967296) / 4294967296) _ _ _ w ?_ ?_ ?_ ?_ ?_ ?_ ?_ ?_ ?_ ?_ ?_ ?_
  · omega
  · rw [← Int.natCast_mul, ← eL]; exact wrap_in _ (by omega)
  · omega
  · rw [← Int.natCast_mul, ← eH]; exact wrap_in _ (by omega)
  · omega
  · omega
  · rw [← Int.natCast_add]; exact wrap_in _ (by omega)
  · omega
  · omega
  · rw [← Int.natCast_add, wrap_in _ (by omega)]; omega
  · omega
  · omega

theorem rgcd_any : ∀ (b a : Nat) (ha : a < 18446744073709551616) (hb : b < 18446744073709551616) (w : World),
    Calls Tryd.prog 33 #[.int .u64 a, .int .u64 b] w fun e w' => e = .returned (.int .u64 (Nat.gcd a b : Nat)) ∧ w' = w := by
  intro b
  induction b using Nat.strongRecOn with
  | ind b ih =>
    intro a ha hb w
    by_cases h0 : b = 0
    · subst h0
      rw [Nat.gcd_zero_right]
      clear ih
      go_enter Tryd.func33, Tryd.ntmps33
      go_wp2
      go_ret
      exact ⟨rfl, rfl⟩
    · have hb0 : ((b : Int) == 0) = false := by simpa using h0
      have hr : (b : Int) ≠ 0 := by omega
      obtain ⟨m, hm⟩ : ∃ m, m = a % b := ⟨_, rfl⟩
      have L : m < b := by rw [hm]; exact Nat.mod_lt _ (Nat.pos_of_ne_zero h0)
      have q : (a : Int) % b = (m : Int) := by rw [hm]; rfl
      have H := Lib.hid (ih m L b hb (by omega))
      rw [← gcd_step a b h0, ← hm]
      clear ih hm
      go_enter Tryd.func33, Tryd.ntmps33
      go_wp2_with (first | (go_at_call 33; refine (H.out _).mono ?_; rintro e w' ⟨rfl, rfl⟩))
      go_ret
      exact ⟨rfl, rfl⟩
def mostB (a2 a1 a0 b2 b1 b0 : Nat) : Bool := if a2 = b2 then if a1 = b1 then if a0 = b0 then true else decide (a0 < b0) else decide (a1 < b1) else decide (a2 < b2)
theorem mostB_eq (x y : Nat) : mostB (dg2 x) (dg1 x) (dg0 x) (dg2 y) (dg1 y) (dg0 y) = decide (x ≤ y) := by
  unfold mostB dg2 dg1 dg0
  have hx : x = x / 18446744073709551616 * 18446744073709551616 + x / 4294967296 % 4294967296 * 4294967296 + x % 4294967296 := by omega
  have hy : y = y / 18446744073709551616 * 18446744073709551616 + y / 4294967296 % 4294967296 * 4294967296 + y % 4294967296 := by omega
  have b1 : x / 4294967296 % 4294967296 < 4294967296 := by omega
  have b2 : y / 4294967296 % 4294967296 < 4294967296 := by omega
  have b3 : x % 4294967296 < 4294967296 := by omega
  have b4 : y % 4294967296 < 4294967296 := by omega
  generalize x / 18446744073709551616 = x2 at *
  generalize y / 18446744073709551616 = y2 at *
  generalize x / 4294967296 % 4294967296 = x1 at *
  generalize y / 4294967296 % 4294967296 = y1 at *
  generalize x % 4294967296 = x0 at *
  generalize y % 4294967296 = y0 at *
  subst hx hy
  split
  · split
    · split
      · exact (decide_eq_true (by omega)).symm
      · exact decide_eq_decide.2 (by omega)
    · exact decide_eq_decide.2 (by omega)
  · exact decide_eq_decide.2 (by omega)
theorem ne_bool {a b : Nat} (h : ¬ a = b) : (((a : Int) != b) = true) := by simp; omega
theorem eq_bool {a b : Nat} (h : a = b) : (((a : Int) != b) = false) := by subst h; simp
theorem most_0 (a2 a1 a0 b2 b1 b0 : Nat) (e2 : (((a2 : Nat) : Int) != b2) = true) (w : World) :
    Calls Tryd.prog 34 #[.agg #[.int .u64 a2, .int .u64 a1, .int .u64 a0], .agg #[.int .u64 b2, .int .u64 b1, .int .u64 b0]] w fun e w' => e = .returned (.bool (decide (a2 < b2))) ∧ Below w.heap.size w w' := by
  go_enter Tryd.func34, Tryd.ntmps34
  go_wp2
  refine wp_loop_rounds 4 ?_
  rw [rounds_succ]
  go_wp2
  go_quiet (fail)
  go_wp2
  go_quiet (fail)
  go_wp2
  go_ret
  have hb := ((Below.refl w.heap.size w).alloc (Nat.le_refl _) (.cells #[Value.int .u64 a2, .int .u64 a1, .int .u64 a0] 51)).alloc (by simp) (.cells #[Value.int .u64 b2, .int .u64 b1, .int .u64 b0] 51)
  exact ⟨rfl, by first | exact below_drewN (below_drewN (below_drewN (below_drewN hb _) _) _) _ | exact below_drewN (below_drewN (below_drewN hb _) _) _ | exact below_drewN (below_drewN hb _) _ | exact below_drewN hb _⟩
theorem most_1 (a2 a1 a0 b2 b1 b0 : Nat) (e2 : (((a2 : Nat) : Int) != b2) = false) (e1 : (((a1 : Nat) : Int) != b1) = true) (w : World) :
    Calls Tryd.prog 34 #[.agg #[.int .u64 a2, .int .u64 a1, .int .u64 a0], .agg #[.int .u64 b2, .int .u64 b1, .int .u64 b0]] w fun e w' => e = .returned (.bool (decide (a1 < b1))) ∧ Below w.heap.size w w' := by
  go_enter Tryd.func34, Tryd.ntmps34
  go_wp2
  refine wp_loop_rounds 4 ?_
  rw [rounds_succ]
  go_wp2
  go_quiet (fail)
  go_wp2
  rw [rounds_succ]
  go_wp2
  go_quiet (fail)
  go_wp2
  go_quiet (fail)
  go_wp2
  go_ret
  have hb := ((Below.refl w.heap.size w).alloc (Nat.le_refl _) (.cells #[Value.int .u64 a2, .int .u64 a1, .int .u64 a0] 51)).alloc (by simp) (.cells #[Value.int .u64 b2, .int .u64 b1, .int .u64 b0] 51)
  exact ⟨rfl, by first | exact below_drewN (below_drewN (below_drewN (below_drewN hb _) _) _) _ | exact below_drewN (below_drewN (below_drewN hb _) _) _ | exact below_drewN (below_drewN hb _) _ | exact below_drewN hb _⟩
theorem most_2 (a2 a1 a0 b2 b1 b0 : Nat) (e2 : (((a2 : Nat) : Int) != b2) = false) (e1 : (((a1 : Nat) : Int) != b1) = false) (e0 : (((a0 : Nat) : Int) != b0) = true) (w : World) :
    Calls Tryd.prog 34 #[.agg #[.int .u64 a2, .int .u64 a1, .int .u64 a0], .agg #[.int .u64 b2, .int .u64 b1, .int .u64 b0]] w fun e w' => e = .returned (.bool (decide (a0 < b0))) ∧ Below w.heap.size w w' := by
  go_enter Tryd.func34, Tryd.ntmps34
  go_wp2
  refine wp_loop_rounds 4 ?_
  rw [rounds_succ]
  go_wp2
  go_quiet (fail)
  go_wp2
  rw [rounds_succ]
  go_wp2
  go_quiet (fail)
  go_wp2
  rw [rounds_succ]
  go_wp2
  go_quiet (fail)
  go_wp2
  go_quiet (fail)
  go_wp2
  go_ret
  have hb := ((Below.refl w.heap.size w).alloc (Nat.le_refl _) (.cells #[Value.int .u64 a2, .int .u64 a1, .int .u64 a0] 51)).alloc (by simp) (.cells #[Value.int .u64 b2, .int .u64 b1, .int .u64 b0] 51)
  exact ⟨rfl, by first | exact below_drewN (below_drewN (below_drewN (below_drewN hb _) _) _) _ | exact below_drewN (below_drewN (below_drewN hb _) _) _ | exact below_drewN (below_drewN hb _) _ | exact below_drewN hb _⟩
theorem most_3 (a2 a1 a0 b2 b1 b0 : Nat) (e2 : (((a2 : Nat) : Int) != b2) = false) (e1 : (((a1 : Nat) : Int) != b1) = false) (e0 : (((a0 : Nat) : Int) != b0) = false) (w : World) :
    Calls Tryd.prog 34 #[.agg #[.int .u64 a2, .int .u64 a1, .int .u64 a0], .agg #[.int .u64 b2, .int .u64 b1, .int .u64 b0]] w fun e w' => e = .returned (.bool (true)) ∧ Below w.heap.size w w' := by
  go_enter Tryd.func34, Tryd.ntmps34
  go_wp2
  refine wp_loop_rounds 4 ?_
  rw [rounds_succ]
  go_wp2
  go_quiet (fail)
  go_wp2
  rw [rounds_succ]
  go_wp2
  go_quiet (fail)
  go_wp2
  rw [rounds_succ]
  go_wp2
  go_quiet (fail)
  go_wp2
  rw [rounds_succ]
  go_wp2
  go_ret
  have hb := ((Below.refl w.heap.size w).alloc (Nat.le_refl _) (.cells #[Value.int .u64 a2, .int .u64 a1, .int .u64 a0] 51)).alloc (by simp) (.cells #[Value.int .u64 b2, .int .u64 b1, .int .u64 b0] 51)
  exact ⟨rfl, by first | exact below_drewN (below_drewN (below_drewN (below_drewN hb _) _) _) _ | exact below_drewN (below_drewN (below_drewN hb _) _) _ | exact below_drewN (below_drewN hb _) _ | exact below_drewN hb _⟩
theorem most_any (a2 a1 a0 b2 b1 b0 : Nat) (w : World) :
    Calls Tryd.prog 34 #[.agg #[.int .u64 a2, .int .u64 a1, .int .u64 a0], .agg #[.int .u64 b2, .int .u64 b1, .int .u64 b0]] w fun e w' => e = .returned (.bool (mostB a2 a1 a0 b2 b1 b0)) ∧ Below w.heap.size w w' := by
  unfold mostB
  by_cases h2 : a2 = b2
  · rw [if_pos h2]
    by_cases h1 : a1 = b1
    · rw [if_pos h1]
      by_cases h0 : a0 = b0
      · rw [if_pos h0]; exact most_3 _ _ _ _ _ _ (eq_bool h2) (eq_bool h1) (eq_bool h0) w
      · rw [if_neg h0]; exact most_2 _ _ _ _ _ _ (eq_bool h2) (eq_bool h1) (ne_bool h0) w
    · rw [if_neg h1]; exact most_1 _ _ _ _ _ _ (eq_bool h2) (ne_bool h1) w
  · rw [if_neg h2]; exact most_0 _ _ _ _ _ _ (ne_bool h2) w
set_option maxHeartbeats 400000 in
theorem rwithin_ok (v n d base : Nat) (hv : v < 18446744073709551616) (hs : base < 18446744073709551616) (hok : okR n d = true) (w : World) :
    Calls Tryd.prog 19 #[.int .u64 v, .agg #[.int .u64 n, .int .u64 d], .int .u64 base] w fun e w' => e = .returned (.bool (decide (v * d ≤ n * base))) ∧ Below w.heap.size w w' := by
  obtain ⟨hn1, hd1, hd2⟩ := okR_le hok
  obtain ⟨x2, hx2⟩ : ∃ x, x = dg2 (v * d) := ⟨_, rfl⟩
  obtain ⟨x1, hx1⟩ : ∃ x, x = dg1 (v * d) := ⟨_, rfl⟩
  obtain ⟨x0, hx0⟩ : ∃ x, x = dg0 (v * d) := ⟨_, rfl⟩
  obtain ⟨y2, hy2⟩ : ∃ x, x = dg2 (n * base) := ⟨_, rfl⟩
  obtain ⟨y1, hy1⟩ : ∃ x, x = dg1 (n * base) := ⟨_, rfl⟩
  obtain ⟨y0, hy0⟩ : ∃ x, x = dg0 (n * base) := ⟨_, rfl⟩
  have e := mostB_eq (v * d) (n * base)
  have P1 := times_any v d hv (by omega)
  have P2 := times_any base n hs (by omega)
  rw [Nat.mul_comm base] at P2
  have PC := most_any x2 x1 x0 y2 y1 y0
  rw [← hx2, ← hx1, ← hx0, ← hy2, ← hy1, ← hy0] at e
  rw [← hx2, ← hx1, ← hx0] at P1
  rw [← hy2, ← hy1, ← hy0] at P2
  rw [e] at PC
  generalize decide (v * d ≤ n * base) = z at *
  have P1 := Lib.hid P1
  have P2 := Lib.hid P2
  have PC := Lib.hid PC
  have HR := Lib.hid (rright_any n d)
  rw [hok] at HR
  clear hx2 hx1 hx0 hy2 hy1 hy0 e hok hv hs hn1 hd1 hd2
  have HB := box2 w (.int .u64 n) (.int .u64 d) 24
  have HB' := Lib.hid HB
  clear HB
  go_enter Tryd.func19, Tryd.ntmps19
  go_wp2_with fail
  go_region_held3 (fun w' => w'.cell? ⟨w.heap.size, 0, none⟩ = some (Value.int .u64 n) ∧ w'.cell? ⟨w.heap.size, 1, none⟩ = some (Value.int .u64 d) ∧ w.heap.size + 1 ≤ w'.heap.size ∧ Below w.heap.size w w')
    (first
      | exact keep2 hb1 ‹_›
      | exact keep2 hb3 ‹_›
      | exact keep2 hb4 ‹_›
      | exact keep2 hb5 ‹_›
      | exact ⟨HB'.out.1, HB'.out.2.1, HB'.out.2.2.1, HB'.out.2.2.2.drew⟩
      | go_keep)
    (first
    | (go_at_call 11; refine (HR.out _).mono ?_; rintro e w1 ⟨rfl, hb1⟩)
    | (go_at_call_of 35 (Value.int .u64 v); refine (P1.out _).mono ?_; rintro e w3 ⟨rfl, hb3⟩)
    | (go_at_call_of 35 (Value.int .u64 base); refine (P2.out _).mono ?_; rintro e w4 ⟨rfl, hb4⟩)
    | (go_at_call 34; refine (PC.out _).mono ?_; rintro e w5 ⟨rfl, hb5⟩))
  rename_i hH
  go_wp2
  go_ret
  exact ⟨rfl, hH.2.2.2⟩
set_option maxHeartbeats 400000 in
theorem rwithin_no (v n d base : Nat) (hok : okR n d = false) (w : World) :
    Calls Tryd.prog 19 #[.int .u64 v, .agg #[.int .u64 n, .int .u64 d], .int .u64 base] w fun e w' => e = .returned (.bool false) ∧ Below w.heap.size w w' := by
  have HR := Lib.hid (rright_any n d)
  rw [hok] at HR
  clear hok
  have HB' := Lib.hid (show Below w.heap.size w (w.alloc (.cells #[.int .u64 n, .int .u64 d] 24)) from (Below.refl _ _).alloc (Nat.le_refl _) _)
  have hc : (w.alloc (.cells #[.int .u64 n, .int .u64 d] 24)).cell? ⟨w.heap.size, 0, none⟩ = some (.int .u64 n) := by simp
  go_enter Tryd.func19, Tryd.ntmps19
  go_wp2_with fail
  refine wp_region_any (by kernel_rfl) ?_
  change wpAny _ _ _ _ _ _ _ (World.drew _)
  refine wpAny_ready (rs := [0]) (by kernel_rfl) (by simp) ?_
  refine AllReady.cons rfl (fun K hK => ?_) AllReady.nil
  go_simp
  refine hK _ _ ?_
  clear hK K
  refine wpAny_ready (rs := [1]) (by kernel_rfl) (by simp) ?_
  refine AllReady.cons rfl (fun K hK => ?_) AllReady.nil
  go_simp
  refine (HR.out _).mono ?_
  rintro e w1 ⟨rfl, hb1⟩
  refine hK _ _ ?_
  clear hK K
  refine wpAny_ready (rs := [2]) (by kernel_rfl) (by simp) ?_
  refine AllReady.cons rfl (fun K hK => ?_) AllReady.nil
  go_simp
  refine hK _ _ ?_
  clear hK K
  refine wpAny_take (i := 3) (v := undef) rfl (by kernel_rfl) (by kernel_rfl) (by kernel_rfl) (fun _ _ _ h => h) (Or.inr ⟨by kernel_rfl, rfl⟩) ?_
  try simp only [Act.put, List.setIfInBounds_toArray, List.set_cons_zero, List.set_cons_succ]
  refine wpAny_take (i := 4) (v := undef) rfl (by kernel_rfl) (by kernel_rfl) (by kernel_rfl) (fun _ _ _ h => h) (Or.inr ⟨by kernel_rfl, rfl⟩) ?_
  try simp only [Act.put, List.setIfInBounds_toArray, List.set_cons_zero, List.set_cons_succ]
  refine wpAny_take (i := 5) (v := undef) rfl (by kernel_rfl) (by kernel_rfl) (by kernel_rfl) (fun _ _ _ h => h) (Or.inr ⟨by kernel_rfl, rfl⟩) ?_
  try simp only [Act.put, List.setIfInBounds_toArray, List.set_cons_zero, List.set_cons_succ]
  refine wpAny_take (i := 6) (v := undef) rfl (by kernel_rfl) (by kernel_rfl) (by kernel_rfl) (fun _ _ _ h => h) (Or.inr ⟨by kernel_rfl, rfl⟩) ?_
  try simp only [Act.put, List.setIfInBounds_toArray, List.set_cons_zero, List.set_cons_succ]
  refine wpAny_take (i := 7) (v := undef) rfl (by kernel_rfl) (by kernel_rfl) (by kernel_rfl) (fun _ _ _ h => h) (Or.inr ⟨by kernel_rfl, rfl⟩) ?_
  try simp only [Act.put, List.setIfInBounds_toArray, List.set_cons_zero, List.set_cons_succ]
  refine wpAny_take (i := 8) (v := undef) rfl (by kernel_rfl) (by kernel_rfl) (by kernel_rfl) (fun _ _ _ h => h) (Or.inr ⟨by kernel_rfl, rfl⟩) ?_
  try simp only [Act.put, List.setIfInBounds_toArray, List.set_cons_zero, List.set_cons_succ]
  refine wpAny_take (i := 9) (v := undef) rfl (by kernel_rfl) (by kernel_rfl) (by kernel_rfl) (fun _ _ _ h => h) (Or.inr ⟨by kernel_rfl, rfl⟩) ?_
  try simp only [Act.put, List.setIfInBounds_toArray, List.set_cons_zero, List.set_cons_succ]
  refine wpAny_take (i := 10) (v := undef) rfl (by kernel_rfl) (by kernel_rfl) (by kernel_rfl) (fun _ _ _ h => h) (Or.inr ⟨by kernel_rfl, rfl⟩) ?_
  try simp only [Act.put, List.setIfInBounds_toArray, List.set_cons_zero, List.set_cons_succ]
  refine wpAny_take (i := 11) (v := undef) rfl (by kernel_rfl) (by kernel_rfl) (by kernel_rfl) (fun _ _ _ h => h) (Or.inr ⟨by kernel_rfl, rfl⟩) ?_
  try simp only [Act.put, List.setIfInBounds_toArray, List.set_cons_zero, List.set_cons_succ]
  refine wpAny_ready (rs := [12]) (by kernel_rfl) (by simp) ?_
  refine AllReady.cons rfl (fun K hK => ?_) AllReady.nil
  go_simp
  refine hK _ _ ?_
  clear hK K
  refine wpAny_ready (rs := [13]) (by kernel_rfl) (by simp) ?_
  refine AllReady.cons rfl (fun K hK => ?_) AllReady.nil
  go_simp
  refine hK _ _ ?_
  clear hK K
  refine wpAny_done (by kernel_rfl) ?_ _
  go_wp2
  go_ret
  exact ⟨rfl, HB'.out.drew.trans (hb1.mono (by simp))⟩
set_option maxHeartbeats 400000 in
theorem rstr_ok (v n d base : Nat) (hv : v < 18446744073709551616) (hs : base < 18446744073709551616) (hok : okR n d = true) (w : World) :
    Calls Tryd.prog 21 #[.int .u64 v, .agg #[.int .u64 n, .int .u64 d], .int .u64 base] w fun e w' => e = .returned (.bool (decide (v * d ≤ (n + d) * base))) ∧ Below w.heap.size w w' := by
  obtain ⟨hn1, hd1, hd2⟩ := okR_le hok
  obtain ⟨m, hm⟩ : ∃ m, m = n + d := ⟨_, rfl⟩
  have q0 : IntKind.u64.wrap ((n : Int) + d) = (m : Int) := by rw [IntWalk.u64_in _ ⟨by omega, by omega⟩]; omega
  rw [← hm]
  have hm2 : m < 4294967296 := by omega
  clear hm
  obtain ⟨x2, hx2⟩ : ∃ x, x = dg2 (v * d) := ⟨_, rfl⟩
  obtain ⟨x1, hx1⟩ : ∃ x, x = dg1 (v * d) := ⟨_, rfl⟩
  obtain ⟨x0, hx0⟩ : ∃ x, x = dg0 (v * d) := ⟨_, rfl⟩
  obtain ⟨y2, hy2⟩ : ∃ x, x = dg2 (m * base) := ⟨_, rfl⟩
  obtain ⟨y1, hy1⟩ : ∃ x, x = dg1 (m * base) := ⟨_, rfl⟩
  obtain ⟨y0, hy0⟩ : ∃ x, x = dg0 (m * base) := ⟨_, rfl⟩
  have e := mostB_eq (v * d) (m * base)
  have P1 := times_any v d hv (by omega)
  have P2 := times_any base m hs (by omega)
  rw [Nat.mul_comm base] at P2
  have PC := most_any x2 x1 x0 y2 y1 y0
  rw [← hx2, ← hx1, ← hx0, ← hy2, ← hy1, ← hy0] at e
  rw [← hx2, ← hx1, ← hx0] at P1
  rw [← hy2, ← hy1, ← hy0] at P2
  rw [e] at PC
  generalize decide (v * d ≤ m * base) = z at *
  have P1 := Lib.hid P1
  have P2 := Lib.hid P2
  have PC := Lib.hid PC
  have HR := Lib.hid (rright_any n d)
  rw [hok] at HR
  clear hm2 hx2 hx1 hx0 hy2 hy1 hy0 e hok hv hs hn1 hd1 hd2
  have HB := box2 w (.int .u64 n) (.int .u64 d) 24
  have HB' := Lib.hid HB
  clear HB
  go_enter Tryd.func21, Tryd.ntmps21
  go_wp2_with fail
  go_region_held3 (fun w' => w'.cell? ⟨w.heap.size, 0, none⟩ = some (Value.int .u64 n) ∧ w'.cell? ⟨w.heap.size, 1, none⟩ = some (Value.int .u64 d) ∧ w.heap.size + 1 ≤ w'.heap.size ∧ Below w.heap.size w w')
    (first
      | exact keep2 hb1 ‹_›
      | exact keep2 hb3 ‹_›
      | exact keep2 hb4 ‹_›
      | exact keep2 hb5 ‹_›
      | exact ⟨HB'.out.1, HB'.out.2.1, HB'.out.2.2.1, HB'.out.2.2.2.drew⟩
      | go_keep)
    (first
    | (go_at_call 11; refine (HR.out _).mono ?_; rintro e w1 ⟨rfl, hb1⟩)
    | (go_at_call_of 35 (Value.int .u64 v); refine (P1.out _).mono ?_; rintro e w3 ⟨rfl, hb3⟩)
    | (go_at_call_of 35 (Value.int .u64 base); refine (P2.out _).mono ?_; rintro e w4 ⟨rfl, hb4⟩)
    | (go_at_call 34; refine (PC.out _).mono ?_; rintro e w5 ⟨rfl, hb5⟩))
  rename_i hH
  go_wp2
  go_ret
  exact ⟨rfl, hH.2.2.2⟩
set_option maxHeartbeats 400000 in
theorem rstr_no (v n d base : Nat) (hok : okR n d = false) (w : World) :
    Calls Tryd.prog 21 #[.int .u64 v, .agg #[.int .u64 n, .int .u64 d], .int .u64 base] w fun e w' => e = .returned (.bool false) ∧ Below w.heap.size w w' := by
  have HR := Lib.hid (rright_any n d)
  rw [hok] at HR
  clear hok
  have HB' := Lib.hid (show Below w.heap.size w (w.alloc (.cells #[.int .u64 n, .int .u64 d] 24)) from (Below.refl _ _).alloc (Nat.le_refl _) _)
  have hc : (w.alloc (.cells #[.int .u64 n, .int .u64 d] 24)).cell? ⟨w.heap.size, 0, none⟩ = some (.int .u64 n) := by simp
  go_enter Tryd.func21, Tryd.ntmps21
  go_wp2_with fail
  refine wp_region_any (by kernel_rfl) ?_
  change wpAny _ _ _ _ _ _ _ (World.drew _)
  refine wpAny_ready (rs := [0]) (by kernel_rfl) (by simp) ?_
  refine AllReady.cons rfl (fun K hK => ?_) AllReady.nil
  go_simp
  refine hK _ _ ?_
  clear hK K
  refine wpAny_ready (rs := [1]) (by kernel_rfl) (by simp) ?_
  refine AllReady.cons rfl (fun K hK => ?_) AllReady.nil
  go_simp
  refine (HR.out _).mono ?_
  rintro e w1 ⟨rfl, hb1⟩
  refine hK _ _ ?_
  clear hK K
  refine wpAny_ready (rs := [2]) (by kernel_rfl) (by simp) ?_
  refine AllReady.cons rfl (fun K hK => ?_) AllReady.nil
  go_simp
  refine hK _ _ ?_
  clear hK K
  refine wpAny_take (i := 3) (v := undef) rfl (by kernel_rfl) (by kernel_rfl) (by kernel_rfl) (fun _ _ _ h => h) (Or.inr ⟨by kernel_rfl, rfl⟩) ?_
  try simp only [Act.put, List.setIfInBounds_toArray, List.set_cons_zero, List.set_cons_succ]
  refine wpAny_take (i := 4) (v := undef) rfl (by kernel_rfl) (by kernel_rfl) (by kernel_rfl) (fun _ _ _ h => h) (Or.inr ⟨by kernel_rfl, rfl⟩) ?_
  try simp only [Act.put, List.setIfInBounds_toArray, List.set_cons_zero, List.set_cons_succ]
  refine wpAny_take (i := 5) (v := undef) rfl (by kernel_rfl) (by kernel_rfl) (by kernel_rfl) (fun _ _ _ h => h) (Or.inr ⟨by kernel_rfl, rfl⟩) ?_
  try simp only [Act.put, List.setIfInBounds_toArray, List.set_cons_zero, List.set_cons_succ]
  refine wpAny_take (i := 6) (v := undef) rfl (by kernel_rfl) (by kernel_rfl) (by kernel_rfl) (fun _ _ _ h => h) (Or.inr ⟨by kernel_rfl, rfl⟩) ?_
  try simp only [Act.put, List.setIfInBounds_toArray, List.set_cons_zero, List.set_cons_succ]
  refine wpAny_take (i := 7) (v := undef) rfl (by kernel_rfl) (by kernel_rfl) (by kernel_rfl) (fun _ _ _ h => h) (Or.inr ⟨by kernel_rfl, rfl⟩) ?_
  try simp only [Act.put, List.setIfInBounds_toArray, List.set_cons_zero, List.set_cons_succ]
  refine wpAny_take (i := 8) (v := undef) rfl (by kernel_rfl) (by kernel_rfl) (by kernel_rfl) (fun _ _ _ h => h) (Or.inr ⟨by kernel_rfl, rfl⟩) ?_
  try simp only [Act.put, List.setIfInBounds_toArray, List.set_cons_zero, List.set_cons_succ]
  refine wpAny_take (i := 9) (v := undef) rfl (by kernel_rfl) (by kernel_rfl) (by kernel_rfl) (fun _ _ _ h => h) (Or.inr ⟨by kernel_rfl, rfl⟩) ?_
  try simp only [Act.put, List.setIfInBounds_toArray, List.set_cons_zero, List.set_cons_succ]
  refine wpAny_take (i := 10) (v := undef) rfl (by kernel_rfl) (by kernel_rfl) (by kernel_rfl) (fun _ _ _ h => h) (Or.inr ⟨by kernel_rfl, rfl⟩) ?_
  try simp only [Act.put, List.setIfInBounds_toArray, List.set_cons_zero, List.set_cons_succ]
  refine wpAny_take (i := 11) (v := undef) rfl (by kernel_rfl) (by kernel_rfl) (by kernel_rfl) (fun _ _ _ h => h) (Or.inr ⟨by kernel_rfl, rfl⟩) ?_
  try simp only [Act.put, List.setIfInBounds_toArray, List.set_cons_zero, List.set_cons_succ]
  refine wpAny_take (i := 12) (v := undef) rfl (by kernel_rfl) (by kernel_rfl) (by kernel_rfl) (fun _ _ _ h => h) (Or.inr ⟨by kernel_rfl, rfl⟩) ?_
  try simp only [Act.put, List.setIfInBounds_toArray, List.set_cons_zero, List.set_cons_succ]
  refine wpAny_take (i := 13) (v := undef) rfl (by kernel_rfl) (by kernel_rfl) (by kernel_rfl) (fun _ _ _ h => h) (Or.inr ⟨by kernel_rfl, rfl⟩) ?_
  try simp only [Act.put, List.setIfInBounds_toArray, List.set_cons_zero, List.set_cons_succ]
  refine wpAny_take (i := 14) (v := undef) rfl (by kernel_rfl) (by kernel_rfl) (by kernel_rfl) (fun _ _ _ h => h) (Or.inr ⟨by kernel_rfl, rfl⟩) ?_
  try simp only [Act.put, List.setIfInBounds_toArray, List.set_cons_zero, List.set_cons_succ]
  refine wpAny_ready (rs := [15]) (by kernel_rfl) (by simp) ?_
  refine AllReady.cons rfl (fun K hK => ?_) AllReady.nil
  go_simp
  refine hK _ _ ?_
  clear hK K
  refine wpAny_ready (rs := [16]) (by kernel_rfl) (by simp) ?_
  refine AllReady.cons rfl (fun K hK => ?_) AllReady.nil
  go_simp
  refine hK _ _ ?_
  clear hK K
  refine wpAny_done (by kernel_rfl) ?_ _
  go_wp2
  go_ret
  exact ⟨rfl, HB'.out.drew.trans (hb1.mono (by simp))⟩
theorem rwithin_any (v n d base : Nat) (hv : v < 18446744073709551616) (hs : base < 18446744073709551616) (w : World) :
    Calls Tryd.prog 19 #[.int .u64 v, .agg #[.int .u64 n, .int .u64 d], .int .u64 base] w fun e w' => e = .returned (.bool (withinB v n d base)) ∧ Below w.heap.size w w' := by
  unfold withinB
  cases e1 : okR n d
  · exact rwithin_no v n d base e1 w
  · exact rwithin_ok v n d base hv hs e1 w
theorem rstretched_any (v n d base : Nat) (hv : v < 18446744073709551616) (hs : base < 18446744073709551616) (w : World) :
    Calls Tryd.prog 21 #[.int .u64 v, .agg #[.int .u64 n, .int .u64 d], .int .u64 base] w fun e w' => e = .returned (.bool (strB v n d base)) ∧ Below w.heap.size w w' := by
  unfold strB
  cases e1 : okR n d
  · exact rstr_no v n d base e1 w
  · exact rstr_ok v n d base hv hs e1 w
set_option maxHeartbeats 400000 in
theorem rreduce_no (n d : Nat) (hok : okR n d = false) (w : World) :
    Calls Tryd.prog 17 #[.agg #[.int .u64 n, .int .u64 d]] w fun e w' => e = .returned (.agg #[.int .u64 0, .int .u64 0]) ∧ Below w.heap.size w w' := by
  have HR := Lib.hid (rright_any n d)
  rw [hok] at HR
  clear hok
  go_enter Tryd.func17, Tryd.ntmps17
  go_wp2_with (first
    | (go_at_call 11; refine (HR.out _).mono ?_; rintro e w1 ⟨rfl, hb1⟩; obtain ⟨c1, c2, c3, c4, f1, f2, hs, HB⟩ := box_res w _ _ _ _ _ _ hb1))
  refine bodyPost_ret (v := .agg #[.int .u64 0, .int .u64 0]) ?_ rfl ⟨rfl, (HB.setCell (p := ⟨w.heap.size + 1, 0, none⟩) (by show _ ≤ w.heap.size + 1; omega) _).setCell (p := ⟨w.heap.size + 1, 1, none⟩) (by show _ ≤ w.heap.size + 1; omega) _⟩
  simp [results, Tryd.results17, go_sem, c1, c2, c3, c4]
set_option maxHeartbeats 1000000 in
theorem rreduce_ok (n d : Nat) (hn : n < 18446744073709551616) (hd : d < 18446744073709551616) (hok : okR n d = true) (w : World) :
    Calls Tryd.prog 17 #[.agg #[.int .u64 n, .int .u64 d]] w fun e w' => e = .returned (.agg #[.int .u64 (n / Nat.gcd n d : Nat), .int .u64 (d / Nat.gcd n d : Nat)]) ∧ Below w.heap.size w w' := by
  have hle := okR_le hok
  have HD := Lib.hid (rgcd_any d n hn hd)
  have hg : 0 < Nat.gcd n d := Nat.gcd_pos_of_pos_right _ (by omega)
  have HR := Lib.hid (rright_any n d)
  rw [hok] at HR
  generalize Nat.gcd n d = g at *
  obtain ⟨x, hx⟩ : ∃ x, x = n / g := ⟨_, rfl⟩
  obtain ⟨y, hy⟩ : ∃ y, y = d / g := ⟨_, rfl⟩
  have hxl : x ≤ n := by rw [hx]; exact Nat.div_le_self _ _
  have hyl : y ≤ d := by rw [hy]; exact Nat.div_le_self _ _
  have q1 : IntKind.u64.wrap ((n : Int) / g) = (x : Int) := by rw [show (n : Int) / g = (x : Int) by rw [hx]; rfl]; exact IntWalk.u64_in _ ⟨by omega, by omega⟩
  have q2 : IntKind.u64.wrap ((d : Int) / g) = (y : Int) := by rw [show (d : Int) / g = (y : Int) by rw [hy]; rfl]; exact IntWalk.u64_in _ ⟨by omega, by omega⟩
  have hg0 : (g : Int) ≠ 0 := by omega
  rw [← hx, ← hy]
  clear hx hy hxl hyl hle hok hn hd
  go_enter Tryd.func17, Tryd.ntmps17
  go_wp2_with (first
    | (go_at_call 11; refine (HR.out _).mono ?_; rintro e w1 ⟨rfl, hb1⟩; obtain ⟨c1, c2, c3, c4, f1, f2, hs, HB⟩ := box_res w _ _ _ _ _ _ hb1)
    | (go_at_call 33; refine (HD.out _).mono ?_; rintro e w2 ⟨rfl, hw2⟩; obtain rfl := hw2))
  obtain ⟨k1, k2, k3, k4, k5, k6, HB2⟩ := keepR (Below.refl _ _) c1 c2 c3 c4 f1 f2 hs HB
  have HB3 := Lib.hid HB2
  clear c1 c2 c3 c4 f1 f2 hs HB HB2 hb1 HR HD
  go_region
  go_wp2
  refine bodyPost_ret (v := .agg #[.int .u64 x, .int .u64 y]) ?_ rfl ⟨rfl, ((HB3.out.setCell (p := ⟨w.heap.size + 1, 0, none⟩) (by show _ ≤ w.heap.size + 1; omega) _).setCell (p := ⟨w.heap.size + 1, 1, none⟩) (by show _ ≤ w.heap.size + 1; omega) _).drew⟩
  simp [results, Tryd.results17, go_sem, k3, k4]
theorem rreduce_any (n d : Nat) (hn : n < 18446744073709551616) (hd : d < 18446744073709551616) (w : World) :
    Calls Tryd.prog 17 #[.agg #[.int .u64 n, .int .u64 d]] w fun e w' => e = .returned (.agg #[.int .u64 (redN n d : Nat), .int .u64 (redD n d : Nat)]) ∧ Below w.heap.size w w' := by
  unfold redN redD
  cases e1 : okR n d
  · rw [if_neg (by simp), if_neg (by simp)]; exact rreduce_no n d e1 w
  · rw [if_pos rfl, if_pos rfl]; exact rreduce_ok n d hn hd e1 w
set_option maxHeartbeats 400000 in
theorem rcmp_no1 (n1 d1 n2 d2 : Nat) (w : World) (hok1 : okR n1 d1 = false) :
    Calls Tryd.prog 15 #[.agg #[.int .u64 n1, .int .u64 d1], .agg #[.int .u64 n2, .int .u64 d2]] w fun e w' => e = .returned (.int .i64 0) ∧ Below w.heap.size w w' := by
  have HR := Lib.hid (rright_any n1 d1)
  rw [hok1] at HR
  clear hok1
  go_enter Tryd.func15, Tryd.ntmps15
  go_wp2_with (first
    | (go_at_call_of 11 (Value.agg #[.int .u64 n1, .int .u64 d1]); refine (HR.out _).mono ?_; rintro e w1 ⟨rfl, hb1⟩))
  go_ret
  exact ⟨rfl, (((Below.refl _ _).alloc (Nat.le_refl _) _).alloc (by simp) _).trans (hb1.mono (by simp; omega))⟩
set_option maxHeartbeats 400000 in
theorem rcmp_no2 (n1 d1 n2 d2 : Nat) (w : World) (hok1 : okR n1 d1 = true) (hok2 : okR n2 d2 = false) :
    Calls Tryd.prog 15 #[.agg #[.int .u64 n1, .int .u64 d1], .agg #[.int .u64 n2, .int .u64 d2]] w fun e w' => e = .returned (.int .i64 0) ∧ Below w.heap.size w w' := by
  have HR := Lib.hid (rright_any n1 d1)
  rw [hok1] at HR
  have HR2 := Lib.hid (rright_any n2 d2)
  rw [hok2] at HR2
  clear hok1 hok2
  go_enter Tryd.func15, Tryd.ntmps15
  go_wp2_with (first
    | (go_at_call_of 11 (Value.agg #[.int .u64 n1, .int .u64 d1]); refine (HR.out _).mono ?_; rintro e w1 ⟨rfl, hb1⟩; obtain ⟨hc1, hf1⟩ := bcell hb1)
    | (go_at_call_of 11 (Value.agg #[.int .u64 n2, .int .u64 d2]); refine (HR2.out _).mono ?_; rintro e w2 ⟨rfl, hb2⟩))
  go_ret
  exact ⟨rfl, (two_boxes w _ _ _ _ _ hb1 hb2).2.2.2.2.2⟩
set_option maxHeartbeats 400000 in
theorem rcmp_ok (n1 d1 n2 d2 : Nat) (w : World) (hok1 : okR n1 d1 = true) (hok2 : okR n2 d2 = true) :
    Calls Tryd.prog 15 #[.agg #[.int .u64 n1, .int .u64 d1], .agg #[.int .u64 n2, .int .u64 d2]] w fun e w' => e = .returned (.int .i64 (cmpZ (n1 * d2) (n2 * d1))) ∧ Below w.heap.size w w' := by
  have HR := Lib.hid (rright_any n1 d1)
  rw [hok1] at HR
  have HR2 := Lib.hid (rright_any n2 d2)
  rw [hok2] at HR2
  obtain ⟨a1, a2, a3⟩ := okR_le hok1
  obtain ⟨b1, b2, b3⟩ := okR_le hok2
  have hx : n1 * d2 ≤ 1048576 * 1048576 := Nat.mul_le_mul a1 b3
  have hy : n2 * d1 ≤ 1048576 * 1048576 := Nat.mul_le_mul b1 a3
  have q1 : IntKind.u64.wrap ((n1 : Int) * d2) = ((n1 * d2 : Nat) : Int) := by rw [← Int.natCast_mul]; exact wrap_in _ (by omega)
  have q2 : IntKind.u64.wrap ((n2 : Int) * d1) = ((n2 * d1 : Nat) : Int) := by rw [← Int.natCast_mul]; exact wrap_in _ (by omega)
  generalize n1 * d2 = p at *
  generalize n2 * d1 = q at *
  clear hok1 hok2 a1 a2 a3 b1 b2 b3 hx hy
  unfold cmpZ
  by_cases h1 : p < q
  · rw [if_neg (by omega), if_pos h1]
    go_enter Tryd.func15, Tryd.ntmps15
    go_wp2_with (first
      | (go_at_call_of 11 (Value.agg #[.int .u64 n1, .int .u64 d1]); refine (HR.out _).mono ?_; rintro e w1 ⟨rfl, hb1⟩; obtain ⟨hc1, hf1⟩ := bcell hb1)
      | (go_at_call_of 11 (Value.agg #[.int .u64 n2, .int .u64 d2]); refine (HR2.out _).mono ?_; rintro e w2 ⟨rfl, hb2⟩))
    obtain ⟨c1, c2, c3, c4, hs, HB⟩ := two_boxes w _ _ _ _ _ hb1 hb2
    clear hc1 hf1 hb1 hb2
    go_quiet (fail)
    go_wp2
    go_ret
    exact ⟨rfl, below_drewN HB _⟩
  · by_cases h2 : q < p
    · rw [if_neg (by omega), if_neg h1]
      go_enter Tryd.func15, Tryd.ntmps15
      go_wp2_with (first
        | (go_at_call_of 11 (Value.agg #[.int .u64 n1, .int .u64 d1]); refine (HR.out _).mono ?_; rintro e w1 ⟨rfl, hb1⟩; obtain ⟨hc1, hf1⟩ := bcell hb1)
        | (go_at_call_of 11 (Value.agg #[.int .u64 n2, .int .u64 d2]); refine (HR2.out _).mono ?_; rintro e w2 ⟨rfl, hb2⟩))
      obtain ⟨c1, c2, c3, c4, hs, HB⟩ := two_boxes w _ _ _ _ _ hb1 hb2
      clear hc1 hf1 hb1 hb2
      go_quiet (fail)
      go_wp2
      go_ret
      exact ⟨rfl, below_drewN HB _⟩
    · rw [if_pos (by omega)]
      go_enter Tryd.func15, Tryd.ntmps15
      go_wp2_with (first
        | (go_at_call_of 11 (Value.agg #[.int .u64 n1, .int .u64 d1]); refine (HR.out _).mono ?_; rintro e w1 ⟨rfl, hb1⟩; obtain ⟨hc1, hf1⟩ := bcell hb1)
        | (go_at_call_of 11 (Value.agg #[.int .u64 n2, .int .u64 d2]); refine (HR2.out _).mono ?_; rintro e w2 ⟨rfl, hb2⟩))
      obtain ⟨c1, c2, c3, c4, hs, HB⟩ := two_boxes w _ _ _ _ _ hb1 hb2
      clear hc1 hf1 hb1 hb2
      go_quiet (fail)
      go_wp2
      go_ret
      exact ⟨rfl, below_drewN HB _⟩
theorem rcmp_any (n1 d1 n2 d2 : Nat) (w : World) :
    Calls Tryd.prog 15 #[.agg #[.int .u64 n1, .int .u64 d1], .agg #[.int .u64 n2, .int .u64 d2]] w fun e w' => e = .returned (.int .i64 (cmpR n1 d1 n2 d2)) ∧ Below w.heap.size w w' := by
  unfold cmpR
  cases e1 : okR n1 d1
  · rw [if_neg (fun h => by simp at h)]; exact rcmp_no1 n1 d1 n2 d2 w e1
  · cases e2 : okR n2 d2
    · rw [if_neg (fun h => by simp at h)]; exact rcmp_no2 n1 d1 n2 d2 w e1 e2
    · rw [if_pos ⟨rfl, rfl⟩]; exact rcmp_ok n1 d1 n2 d2 w e1 e2
