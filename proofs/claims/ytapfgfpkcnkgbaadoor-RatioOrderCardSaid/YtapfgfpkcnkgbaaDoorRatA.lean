import Derived.Test.YtapfgfpkcnkgbaaDoorRows
import Derived.Test.YtapfgfpkcnkgbaaDoorShelf
import Derived.WalkKit
import Derived.ProofKit
import Derived.OpenShut
import Derived.Laws.Externs
import Derived.Lib.Hide
import Derived.WalkLawsBesides
import Derived.WalkSpells
import Derived.WalkSmall
import Derived.Deep.RegionWith
import Derived.Deep.RegionHeld3
set_option linter.unusedVariables false
set_option linter.unusedSimpArgs false
namespace Go.Proofs.YtapfgfpkcnkgbaaDoor
open Go.RowKit
set_option maxHeartbeats 400000 in
def okR (n d : Nat) : Bool := decide (n ≤ 1048576) && (decide (1 ≤ d) && decide (d ≤ 1048576))
set_option maxHeartbeats 400000 in
theorem lim_any (b : Nat) (v : Bool) (n least : Nat) (w : World) (hc : w.cell? ⟨b, 0, none⟩ = some (.bool v)) (hf : w.frozen? ⟨b, 0, none⟩ = false) :
    Calls Tryd.prog 27 #[.int .u64 n, .int .u64 least, .pointer (some ⟨b, 0, none⟩)] w fun e w' => e = .returned (.tuple #[]) ∧ w' = w.setCell ⟨b, 0, none⟩ (.bool (v && (decide (least ≤ n) && decide (n ≤ 1048576)))) := by
  cases v <;> by_cases h1 : least ≤ n <;> by_cases h2 : n ≤ 1048576
  all_goals
    go_enter Tryd.func27, Tryd.ntmps27
    go_wp2
    go_end0
    refine ⟨rfl, ?_⟩
    simp [*]
    try (congr 2; first | exact decide_eq_true (by omega) | exact decide_eq_false (by omega))
theorem lim0 (b : Nat) (v : Bool) (n : Nat) (w : World) (hc : w.cell? ⟨b, 0, none⟩ = some (.bool v)) (hf : w.frozen? ⟨b, 0, none⟩ = false) :
    Calls Tryd.prog 27 #[.int .u64 n, .int .u64 0, .pointer (some ⟨b, 0, none⟩)] w fun e w' => e = .returned (.tuple #[]) ∧ w' = w.setCell ⟨b, 0, none⟩ (.bool (v && decide (n ≤ 1048576))) := by
  have h := lim_any b v n 0 w hc hf
  simpa using h
theorem lim1 (b : Nat) (v : Bool) (n : Nat) (w : World) (hc : w.cell? ⟨b, 0, none⟩ = some (.bool v)) (hf : w.frozen? ⟨b, 0, none⟩ = false) :
    Calls Tryd.prog 27 #[.int .u64 n, .int .u64 1, .pointer (some ⟨b, 0, none⟩)] w fun e w' => e = .returned (.tuple #[]) ∧ w' = w.setCell ⟨b, 0, none⟩ (.bool (v && (decide (1 ≤ n) && decide (n ≤ 1048576)))) :=
  lim_any b v n 1 w hc hf
set_option maxHeartbeats 400000 in
theorem right_any (n d : Nat) (w : World) :
    Calls Tryd.prog 10 #[.agg #[.int .u64 n, .int .u64 d]] w fun e w' => e = .returned (.bool (okR n d)) ∧ Below w.heap.size w w' := by
  go_enter Tryd.func10, Tryd.ntmps10
  go_wp2_with (first
    | (go_at_call_of 27 (Value.int IntKind.u64 0); refine (lim0 (w.heap.size + 1) true n _ ?_ ?_).mono ?_; (· simp); (· simp); rintro e w' ⟨rfl, rfl⟩)
    | (go_at_call_of 27 (Value.int IntKind.u64 1); refine (lim1 (w.heap.size + 1) (decide (n ≤ 1048576)) d _ ?_ ?_).mono ?_; (· simp); (· simp); rintro e w' ⟨rfl, rfl⟩))
  go_ret
  exact ⟨rfl, ((Below.refl _ _).alloc (Nat.le_refl _) _).alloc (by simp) _⟩

theorem product_any (a b : Nat) (ha : a < 18446744073709551616) (hb : b < 18446744073709551616) (w : World) :
    Calls Tryd.prog 31 #[.int .u64 a, .int .u64 b] w fun e w' => e = .returned (.agg #[.int .u64 ((a * b / 18446744073709551616 : Nat) : Int), .int .u64 ((a * b % 18446744073709551616 : Nat) : Int)]) ∧ Below w.heap.size w w' := by
  have h := Tryd.bits_Mul64 a b ha hb
  generalize a * b / 18446744073709551616 = q at *
  generalize a * b % 18446744073709551616 = r at *
  have H := Lib.hid h
  clear h
  go_enter Tryd.func31, Tryd.ntmps31
  go_wp2_with (go_at_call 44; refine (H.out _).mono ?_; rintro e w' ⟨rfl, rfl⟩)
  refine bodyPost_ret (v := .agg #[.int .u64 q, .int .u64 r]) ?_ rfl ⟨rfl, (Below.refl _ _).alloc (Nat.le_refl _) _⟩
  simp [results, Tryd.results31, go_sem]

def cmpZ (p q : Nat) : Int := if p = q then 0 else if p < q then -1 else 1
theorem compare_any (h1 l1 h2 l2 : Nat) (b1 : l1 < 18446744073709551616) (b2 : l2 < 18446744073709551616) (w : World) :
    Calls Tryd.prog 30 #[.agg #[.int .u64 h1, .int .u64 l1], .agg #[.int .u64 h2, .int .u64 l2]] w fun e w' => e = .returned (.int .i64 (cmpZ (h1 * 18446744073709551616 + l1) (h2 * 18446744073709551616 + l2))) ∧ Below w.heap.size w w' := by
  have HP : cmpZ (h1 * 18446744073709551616 + l1) (h2 * 18446744073709551616 + l2) = if h1 = h2 ∧ l1 = l2 then 0 else if h1 < h2 ∨ (h1 = h2 ∧ l1 < l2) then -1 else 1 := by
    unfold cmpZ
    by_cases c : h1 = h2
    · subst c
      by_cases c2 : l1 = l2
      · simp [c2]
      · by_cases c3 : l1 < l2
        · rw [if_neg (by omega), if_pos (by omega), if_neg (by simp [c2]), if_pos (Or.inr ⟨rfl, c3⟩)]
        · rw [if_neg (by omega), if_neg (by omega), if_neg (by simp [c2]), if_neg (by omega)]
    · by_cases c3 : h1 < h2
      · rw [if_neg (by omega), if_pos (by omega), if_neg (by simp [c]), if_pos (Or.inl c3)]
      · rw [if_neg (by omega), if_neg (by omega), if_neg (by simp [c]), if_neg (by omega)]
  rw [HP]
  clear HP
  go_enter Tryd.func30, Tryd.ntmps30
  go_wp2
  all_goals go_ret
  all_goals exact ⟨rfl, ((Below.refl _ _).alloc (Nat.le_refl _) _).alloc (by simp) _⟩
theorem compare_prod (p q : Nat) (w : World) :
    Calls Tryd.prog 30 #[.agg #[.int .u64 (p / 18446744073709551616 : Nat), .int .u64 (p % 18446744073709551616 : Nat)], .agg #[.int .u64 (q / 18446744073709551616 : Nat), .int .u64 (q % 18446744073709551616 : Nat)]] w fun e w' => e = .returned (.int .i64 (cmpZ p q)) ∧ Below w.heap.size w w' := by
  have h := compare_any (p / 18446744073709551616) (p % 18446744073709551616) (q / 18446744073709551616) (q % 18446744073709551616) (Nat.mod_lt _ (by omega)) (Nat.mod_lt _ (by omega)) w
  rw [Nat.div_add_mod', Nat.div_add_mod'] at h
  exact h

theorem bcell {W w1 : World} (hb : Below W.heap.size W w1) : (∀ b o, b < W.heap.size → w1.cell? ⟨b, o, none⟩ = W.cell? ⟨b, o, none⟩) ∧ (∀ b o, b < W.heap.size → w1.frozen? ⟨b, o, none⟩ = W.frozen? ⟨b, o, none⟩) :=
  ⟨fun b o h => hb.cell (p := ⟨b, o, none⟩) h, fun b o h => hb.frozen (p := ⟨b, o, none⟩) h⟩
/-- What two boxed pairs read as, behind calls that write nothing that was there. -/
theorem two_boxes (w : World) (a b1 c d : Value) (T : TypeId) {w1 w2 : World} (h1 : Below ((w.alloc (.cells #[a, b1] T)).alloc (.cells #[c, d] T)).heap.size ((w.alloc (.cells #[a, b1] T)).alloc (.cells #[c, d] T)) w1) (h2 : Below w1.heap.size w1 w2) :
    w2.cell? ⟨w.heap.size, 0, none⟩ = some a ∧ w2.cell? ⟨w.heap.size, 1, none⟩ = some b1 ∧ w2.cell? ⟨w.heap.size + 1, 0, none⟩ = some c ∧ w2.cell? ⟨w.heap.size + 1, 1, none⟩ = some d ∧ w.heap.size + 2 ≤ w2.heap.size ∧ Below w.heap.size w w2 := by
  have hs1 := h1.size
  have hs2 := h2.size
  simp at hs1
  have e : ∀ b o, b < w.heap.size + 2 → w2.cell? ⟨b, o, none⟩ = ((w.alloc (.cells #[a, b1] T)).alloc (.cells #[c, d] T)).cell? ⟨b, o, none⟩ := fun b o hb => by
    rw [h2.cell (p := ⟨b, o, none⟩) (by show b < _; omega), h1.cell (p := ⟨b, o, none⟩) (by show b < _; simp; omega)]
  refine ⟨by rw [e _ _ (by omega)]; simp, by rw [e _ _ (by omega)]; simp, by rw [e _ _ (by omega)]; simp, by rw [e _ _ (by omega)]; simp, by omega, ?_⟩
  exact (((Below.refl w.heap.size w).alloc (Nat.le_refl _) _).alloc (by simp) _).trans ((h1.mono (by simp; omega)).trans (h2.mono (by omega)))
theorem keep4 {W w1 : World} (hb : Below W.heap.size W w1) {B : Nat} {a b1 c d : Value} (h1 : W.cell? ⟨B, 0, none⟩ = some a) (h2 : W.cell? ⟨B, 1, none⟩ = some b1) (h3 : W.cell? ⟨B + 1, 0, none⟩ = some c) (h4 : W.cell? ⟨B + 1, 1, none⟩ = some d) (hs : B + 2 ≤ W.heap.size) :
    w1.cell? ⟨B, 0, none⟩ = some a ∧ w1.cell? ⟨B, 1, none⟩ = some b1 ∧ w1.cell? ⟨B + 1, 0, none⟩ = some c ∧ w1.cell? ⟨B + 1, 1, none⟩ = some d ∧ B + 2 ≤ w1.heap.size := by
  refine ⟨?_, ?_, ?_, ?_, Nat.le_trans hs hb.size⟩
  · rw [hb.cell (p := ⟨B, 0, none⟩) (by show B < _; omega)]; exact h1
  · rw [hb.cell (p := ⟨B, 1, none⟩) (by show B < _; omega)]; exact h2
  · rw [hb.cell (p := ⟨B + 1, 0, none⟩) (by show B + 1 < _; omega)]; exact h3
  · rw [hb.cell (p := ⟨B + 1, 1, none⟩) (by show B + 1 < _; omega)]; exact h4
/-- A product as its two halves, which the walk takes as plain variables. -/
theorem product_halves (a b : Nat) (ha : a < 18446744073709551616) (hb : b < 18446744073709551616) :
    ∃ q r : Nat, q < 18446744073709551616 ∧ r < 18446744073709551616 ∧ Hid (q * 18446744073709551616 + r = a * b) ∧ Hid (∀ w : World, Calls Tryd.prog 31 #[.int .u64 a, .int .u64 b] w fun e w' => e = .returned (.agg #[.int .u64 q, .int .u64 r]) ∧ Below w.heap.size w w') := by
  refine ⟨a * b / 18446744073709551616, a * b % 18446744073709551616, ?_, Nat.mod_lt _ (by omega), Lib.hid (Nat.div_add_mod' _ _), Lib.hid (product_any a b ha hb)⟩
  rw [Nat.div_lt_iff_lt_mul (by omega)]
  exact Nat.mul_lt_mul'' ha hb
theorem keepS {w W w1 : World} {B : Nat} {a b1 c d : Value} (hb : Below W.heap.size W w1)
    (h : W.cell? ⟨B, 0, none⟩ = some a ∧ W.cell? ⟨B, 1, none⟩ = some b1 ∧ W.cell? ⟨B + 1, 0, none⟩ = some c ∧ W.cell? ⟨B + 1, 1, none⟩ = some d ∧ B + 2 ≤ W.heap.size ∧ Below B w W) :
    w1.cell? ⟨B, 0, none⟩ = some a ∧ w1.cell? ⟨B, 1, none⟩ = some b1 ∧ w1.cell? ⟨B + 1, 0, none⟩ = some c ∧ w1.cell? ⟨B + 1, 1, none⟩ = some d ∧ B + 2 ≤ w1.heap.size ∧ Below B w w1 := by
  obtain ⟨k1, k2, k3, k4, ks⟩ := keep4 hb h.1 h.2.1 h.2.2.1 h.2.2.2.1 h.2.2.2.2.1
  exact ⟨k1, k2, k3, k4, ks, h.2.2.2.2.2.trans (hb.mono (by omega))⟩
set_option maxHeartbeats 400000 in
theorem cmp_ok (n1 d1 n2 d2 : Nat) (h1 : n1 < 18446744073709551616) (h2 : d1 < 18446744073709551616) (h3 : n2 < 18446744073709551616) (h4 : d2 < 18446744073709551616) (w : World) (hok1 : okR n1 d1 = true) (hok2 : okR n2 d2 = true) :
    Calls Tryd.prog 14 #[.agg #[.int .u64 n1, .int .u64 d1], .agg #[.int .u64 n2, .int .u64 d2]] w fun e w' => e = .returned (.int .i64 (cmpZ (n1 * d2) (n2 * d1))) ∧ Below w.heap.size w w' := by
  obtain ⟨q1, r1, hq1, hr1, E1, P1⟩ := product_halves n1 d2 h1 h4
  obtain ⟨q2, r2, hq2, hr2, E2, P2⟩ := product_halves n2 d1 h3 h2
  rw [← E1.out, ← E2.out]
  have PC := Lib.hid (compare_any q1 r1 q2 r2 hr1 hr2)
  generalize cmpZ _ _ = z at *
  clear hq1 hq2 hr1 hr2 E1 E2
  go_enter Tryd.func14, Tryd.ntmps14
  go_wp2_with (first
    | (go_at_call_of 10 (Value.agg #[.int .u64 n1, .int .u64 d1]); refine (right_any n1 d1 _).mono ?_; rintro e w1 ⟨rfl, hb1⟩; obtain ⟨hc1, hf1⟩ := bcell hb1)
    | (go_at_call_of 10 (Value.agg #[.int .u64 n2, .int .u64 d2]); refine (right_any n2 d2 _).mono ?_; rintro e w2 ⟨rfl, hb2⟩))
  obtain ⟨c1, c2, c3, c4, hs, HB⟩ := two_boxes w _ _ _ _ _ hb1 hb2
  clear hc1 hf1 hb1 hb2 hok1 hok2 h1 h2 h3 h4
  go_region_held3 (fun w' => w'.cell? ⟨w.heap.size, 0, none⟩ = some (Value.int .u64 n1) ∧ w'.cell? ⟨w.heap.size, 1, none⟩ = some (Value.int .u64 d1) ∧ w'.cell? ⟨w.heap.size + 1, 0, none⟩ = some (Value.int .u64 n2) ∧ w'.cell? ⟨w.heap.size + 1, 1, none⟩ = some (Value.int .u64 d2) ∧ w.heap.size + 2 ≤ w'.heap.size ∧ Below w.heap.size w w')
    (first
      | exact keepS hb3 ‹_›
      | exact keepS hb4 ‹_›
      | exact keepS hb5 ‹_›
      | exact ⟨by assumption, by assumption, by assumption, by assumption, by assumption, Below.drew (by assumption)⟩
      | go_keep)
    (first
    | (go_at_call_of 31 (Value.int .u64 n1); refine (P1.out _).mono ?_; rintro e w3 ⟨rfl, hb3⟩)
    | (go_at_call_of 31 (Value.int .u64 n2); refine (P2.out _).mono ?_; rintro e w4 ⟨rfl, hb4⟩)
    | (go_at_call 30; refine (PC.out _).mono ?_; rintro e w5 ⟨rfl, hb5⟩))
  rename_i hH
  go_wp2
  go_ret
  exact ⟨rfl, hH.2.2.2.2.2⟩
theorem cmpZ_le (p q : Nat) : (cmpZ p q ≤ 0) ↔ p ≤ q := by
  unfold cmpZ
  split
  · omega
  · split <;> omega
theorem keep2 {w W w1 : World} {B : Nat} {a b1 : Value} (hb : Below W.heap.size W w1)
    (h : W.cell? ⟨B, 0, none⟩ = some a ∧ W.cell? ⟨B, 1, none⟩ = some b1 ∧ B + 1 ≤ W.heap.size ∧ Below B w W) :
    w1.cell? ⟨B, 0, none⟩ = some a ∧ w1.cell? ⟨B, 1, none⟩ = some b1 ∧ B + 1 ≤ w1.heap.size ∧ Below B w w1 := by
  refine ⟨?_, ?_, Nat.le_trans h.2.2.1 hb.size, h.2.2.2.trans (hb.mono (by omega))⟩
  · rw [hb.cell (p := ⟨B, 0, none⟩) (by show B < _; omega)]; exact h.1
  · rw [hb.cell (p := ⟨B, 1, none⟩) (by show B < _; omega)]; exact h.2.1
/-- The start of such a stretch: one pair is boxed. -/
theorem box2 (w : World) (a b1 : Value) (T : TypeId) : (w.alloc (.cells #[a, b1] T)).cell? ⟨w.heap.size, 0, none⟩ = some a ∧ (w.alloc (.cells #[a, b1] T)).cell? ⟨w.heap.size, 1, none⟩ = some b1 ∧ w.heap.size + 1 ≤ (w.alloc (.cells #[a, b1] T)).heap.size ∧ Below w.heap.size w (w.alloc (.cells #[a, b1] T)) :=
  ⟨by simp, by simp, by simp, (Below.refl _ _).alloc (Nat.le_refl _) _⟩
def withinB (v n d base : Nat) : Bool := okR n d && decide (v * d ≤ n * base)
def strB (v n d base : Nat) : Bool := okR n d && decide (v * d ≤ (n + d) * base)
set_option maxHeartbeats 400000 in
theorem within_ok (v n d base : Nat) (hv : v < 18446744073709551616) (hn : n < 18446744073709551616) (hd : d < 18446744073709551616) (hs : base < 18446744073709551616) (hok : okR n d = true) (w : World) :
    Calls Tryd.prog 18 #[.int .u64 v, .agg #[.int .u64 n, .int .u64 d], .int .u64 base] w fun e w' => e = .returned (.bool (decide (v * d ≤ n * base))) ∧ Below w.heap.size w w' := by
  obtain ⟨q1, r1, hq1, hr1, E1, P1⟩ := product_halves v d hv hd
  obtain ⟨q2, r2, hq2, hr2, E2, P2⟩ := product_halves n base hn hs
  have HD := Lib.hid (show decide (cmpZ (v * d) (n * base) ≤ 0) = decide (v * d ≤ n * base) from decide_eq_decide.2 (cmpZ_le _ _))
  rw [← HD.out]
  clear HD
  rw [← E1.out, ← E2.out]
  have PC := Lib.hid (compare_any q1 r1 q2 r2 hr1 hr2)
  generalize cmpZ _ _ = z at *
  clear hq1 hq2 hr1 hr2 E1 E2 hv hn hd hs
  have HR := Lib.hid (right_any n d)
  rw [hok] at HR
  clear hok
  have HB := box2 w (.int .u64 n) (.int .u64 d) 24
  have HB' := Lib.hid HB
  clear HB
  go_enter Tryd.func18, Tryd.ntmps18
  go_wp2_with fail
  go_region_held3 (fun w' => w'.cell? ⟨w.heap.size, 0, none⟩ = some (Value.int .u64 n) ∧ w'.cell? ⟨w.heap.size, 1, none⟩ = some (Value.int .u64 d) ∧ w.heap.size + 1 ≤ w'.heap.size ∧ Below w.heap.size w w')
    (first
      | exact keep2 hb1 ‹_›
      | exact keep2 hb3 ‹_›
      | exact keep2 hb4 ‹_›
      | exact keep2 hb5 ‹_›
      | exact ⟨HB'.out.1, HB'.out.2.1, HB'.out.2.2.1, HB'.out.2.2.2.drew⟩
      | go_keep)
    (first
    | (go_at_call 10; refine (HR.out _).mono ?_; rintro e w1 ⟨rfl, hb1⟩)
    | (go_at_call_of 31 (Value.int .u64 v); refine (P1.out _).mono ?_; rintro e w3 ⟨rfl, hb3⟩)
    | (go_at_call_of 31 (Value.int .u64 n); refine (P2.out _).mono ?_; rintro e w4 ⟨rfl, hb4⟩)
    | (go_at_call 30; refine (PC.out _).mono ?_; rintro e w5 ⟨rfl, hb5⟩))
  rename_i hH
  go_wp2
  go_ret
  exact ⟨rfl, hH.2.2.2⟩
set_option maxHeartbeats 400000 in
theorem str_ok (v n d base : Nat) (hv : v < 18446744073709551616) (hn : n < 18446744073709551616) (hd : d < 18446744073709551616) (hs : base < 18446744073709551616) (hok : okR n d = true) (hsum : n + d < 18446744073709551616) (w : World) :
    Calls Tryd.prog 20 #[.int .u64 v, .agg #[.int .u64 n, .int .u64 d], .int .u64 base] w fun e w' => e = .returned (.bool (decide (v * d ≤ (n + d) * base))) ∧ Below w.heap.size w w' := by
  obtain ⟨m, hm⟩ : ∃ m, m = n + d := ⟨_, rfl⟩
  have hm2 : m < 18446744073709551616 := by omega
  have q0 : IntKind.u64.wrap ((n : Int) + d) = (m : Int) := by rw [IntWalk.u64_in _ ⟨by omega, by omega⟩]; omega
  rw [← hm]
  clear hm hsum
  obtain ⟨q1, r1, hq1, hr1, E1, P1⟩ := product_halves v d hv hd
  obtain ⟨q2, r2, hq2, hr2, E2, P2⟩ := product_halves m base hm2 hs
  have HD := Lib.hid (show decide (cmpZ (v * d) (m * base) ≤ 0) = decide (v * d ≤ m * base) from decide_eq_decide.2 (cmpZ_le _ _))
  rw [← HD.out]
  clear HD
  rw [← E1.out, ← E2.out]
  have PC := Lib.hid (compare_any q1 r1 q2 r2 hr1 hr2)
  generalize cmpZ _ _ = z at *
  clear hq1 hq2 hr1 hr2 E1 E2 hv hn hd hs hm2
  have HR := Lib.hid (right_any n d)
  rw [hok] at HR
  clear hok
  have HB := box2 w (.int .u64 n) (.int .u64 d) 24
  have HB' := Lib.hid HB
  clear HB
  go_enter Tryd.func20, Tryd.ntmps20
  go_wp2_with fail
  go_region_held3 (fun w' => w'.cell? ⟨w.heap.size, 0, none⟩ = some (Value.int .u64 n) ∧ w'.cell? ⟨w.heap.size, 1, none⟩ = some (Value.int .u64 d) ∧ w.heap.size + 1 ≤ w'.heap.size ∧ Below w.heap.size w w')
    (first
      | exact keep2 hb1 ‹_›
      | exact keep2 hb3 ‹_›
      | exact keep2 hb4 ‹_›
      | exact keep2 hb5 ‹_›
      | exact ⟨HB'.out.1, HB'.out.2.1, HB'.out.2.2.1, HB'.out.2.2.2.drew⟩
      | go_keep)
    (first
    | (go_at_call 10; refine (HR.out _).mono ?_; rintro e w1 ⟨rfl, hb1⟩)
    | (go_at_call_of 31 (Value.int .u64 v); refine (P1.out _).mono ?_; rintro e w3 ⟨rfl, hb3⟩)
    | (go_at_call_of 31 (Value.int .u64 m); refine (P2.out _).mono ?_; rintro e w4 ⟨rfl, hb4⟩)
    | (go_at_call 30; refine (PC.out _).mono ?_; rintro e w5 ⟨rfl, hb5⟩))
  rename_i hH
  go_wp2
  go_ret
  exact ⟨rfl, hH.2.2.2⟩
set_option maxHeartbeats 400000 in
theorem within_no (v n d base : Nat) (hok : okR n d = false) (w : World) :
    Calls Tryd.prog 18 #[.int .u64 v, .agg #[.int .u64 n, .int .u64 d], .int .u64 base] w fun e w' => e = .returned (.bool false) ∧ Below w.heap.size w w' := by
  have HR := Lib.hid (right_any n d)
  rw [hok] at HR
  clear hok
  have HB' := Lib.hid (show Below w.heap.size w (w.alloc (.cells #[.int .u64 n, .int .u64 d] 24)) from (Below.refl _ _).alloc (Nat.le_refl _) _)
  have hc : (w.alloc (.cells #[.int .u64 n, .int .u64 d] 24)).cell? ⟨w.heap.size, 0, none⟩ = some (.int .u64 n) := by simp
  go_enter Tryd.func18, Tryd.ntmps18
  go_wp2_with fail
  refine wp_region_any (by kernel_rfl) ?_
  change wpAny _ _ _ _ _ _ _ (World.drew _)
  refine wpAny_ready (rs := [0]) (by kernel_rfl) (by simp) ?_
  refine AllReady.cons rfl (fun K hK => ?_) AllReady.nil
  go_simp
  refine hK _ _ ?_
  clear hK K
  refine wpAny_ready (rs := [1]) (by kernel_rfl) (by simp) ?_
  refine AllReady.cons rfl (fun K hK => ?_) AllReady.nil
  go_simp
  refine (HR.out _).mono ?_
  rintro e w1 ⟨rfl, hb1⟩
  refine hK _ _ ?_
  clear hK K
  refine wpAny_ready (rs := [2]) (by kernel_rfl) (by simp) ?_
  refine AllReady.cons rfl (fun K hK => ?_) AllReady.nil
  go_simp
  refine hK _ _ ?_
  clear hK K
  refine wpAny_take (i := 3) (v := undef) rfl (by kernel_rfl) (by kernel_rfl) (by kernel_rfl) (fun _ _ _ h => h) (Or.inr ⟨by kernel_rfl, rfl⟩) ?_
  try simp only [Act.put, List.setIfInBounds_toArray, List.set_cons_zero, List.set_cons_succ]
  refine wpAny_take (i := 4) (v := undef) rfl (by kernel_rfl) (by kernel_rfl) (by kernel_rfl) (fun _ _ _ h => h) (Or.inr ⟨by kernel_rfl, rfl⟩) ?_
  try simp only [Act.put, List.setIfInBounds_toArray, List.set_cons_zero, List.set_cons_succ]
  refine wpAny_take (i := 5) (v := undef) rfl (by kernel_rfl) (by kernel_rfl) (by kernel_rfl) (fun _ _ _ h => h) (Or.inr ⟨by kernel_rfl, rfl⟩) ?_
  try simp only [Act.put, List.setIfInBounds_toArray, List.set_cons_zero, List.set_cons_succ]
  refine wpAny_take (i := 6) (v := undef) rfl (by kernel_rfl) (by kernel_rfl) (by kernel_rfl) (fun _ _ _ h => h) (Or.inr ⟨by kernel_rfl, rfl⟩) ?_
  try simp only [Act.put, List.setIfInBounds_toArray, List.set_cons_zero, List.set_cons_succ]
  refine wpAny_take (i := 7) (v := undef) rfl (by kernel_rfl) (by kernel_rfl) (by kernel_rfl) (fun _ _ _ h => h) (Or.inr ⟨by kernel_rfl, rfl⟩) ?_
  try simp only [Act.put, List.setIfInBounds_toArray, List.set_cons_zero, List.set_cons_succ]
  refine wpAny_take (i := 8) (v := undef) rfl (by kernel_rfl) (by kernel_rfl) (by kernel_rfl) (fun _ _ _ h => h) (Or.inr ⟨by kernel_rfl, rfl⟩) ?_
  try simp only [Act.put, List.setIfInBounds_toArray, List.set_cons_zero, List.set_cons_succ]
  refine wpAny_take (i := 9) (v := undef) rfl (by kernel_rfl) (by kernel_rfl) (by kernel_rfl) (fun _ _ _ h => h) (Or.inr ⟨by kernel_rfl, rfl⟩) ?_
  try simp only [Act.put, List.setIfInBounds_toArray, List.set_cons_zero, List.set_cons_succ]
  refine wpAny_take (i := 10) (v := undef) rfl (by kernel_rfl) (by kernel_rfl) (by kernel_rfl) (fun _ _ _ h => h) (Or.inr ⟨by kernel_rfl, rfl⟩) ?_
  try simp only [Act.put, List.setIfInBounds_toArray, List.set_cons_zero, List.set_cons_succ]
  refine wpAny_take (i := 11) (v := undef) rfl (by kernel_rfl) (by kernel_rfl) (by kernel_rfl) (fun _ _ _ h => h) (Or.inr ⟨by kernel_rfl, rfl⟩) ?_
  try simp only [Act.put, List.setIfInBounds_toArray, List.set_cons_zero, List.set_cons_succ]
  refine wpAny_take (i := 12) (v := undef) rfl (by kernel_rfl) (by kernel_rfl) (by kernel_rfl) (fun _ _ _ h => h) (Or.inr ⟨by kernel_rfl, rfl⟩) ?_
  try simp only [Act.put, List.setIfInBounds_toArray, List.set_cons_zero, List.set_cons_succ]
  refine wpAny_ready (rs := [13]) (by kernel_rfl) (by simp) ?_
  refine AllReady.cons rfl (fun K hK => ?_) AllReady.nil
  go_simp
  refine hK _ _ ?_
  clear hK K
  refine wpAny_ready (rs := [14]) (by kernel_rfl) (by simp) ?_
  refine AllReady.cons rfl (fun K hK => ?_) AllReady.nil
  go_simp
  refine hK _ _ ?_
  clear hK K
  refine wpAny_done (by kernel_rfl) ?_ _
  go_wp2
  go_ret
  exact ⟨rfl, HB'.out.drew.trans (hb1.mono (by simp))⟩
set_option maxHeartbeats 400000 in
theorem str_no (v n d base : Nat) (hok : okR n d = false) (w : World) :
    Calls Tryd.prog 20 #[.int .u64 v, .agg #[.int .u64 n, .int .u64 d], .int .u64 base] w fun e w' => e = .returned (.bool false) ∧ Below w.heap.size w w' := by
  have HR := Lib.hid (right_any n d)
  rw [hok] at HR
  clear hok
  have HB' := Lib.hid (show Below w.heap.size w (w.alloc (.cells #[.int .u64 n, .int .u64 d] 24)) from (Below.refl _ _).alloc (Nat.le_refl _) _)
  have hc : (w.alloc (.cells #[.int .u64 n, .int .u64 d] 24)).cell? ⟨w.heap.size, 0, none⟩ = some (.int .u64 n) := by simp
  go_enter Tryd.func20, Tryd.ntmps20
  go_wp2_with fail
  refine wp_region_any (by kernel_rfl) ?_
  change wpAny _ _ _ _ _ _ _ (World.drew _)
  refine wpAny_ready (rs := [0]) (by kernel_rfl) (by simp) ?_
  refine AllReady.cons rfl (fun K hK => ?_) AllReady.nil
  go_simp
  refine hK _ _ ?_
  clear hK K
  refine wpAny_ready (rs := [1]) (by kernel_rfl) (by simp) ?_
  refine AllReady.cons rfl (fun K hK => ?_) AllReady.nil
  go_simp
  refine (HR.out _).mono ?_
  rintro e w1 ⟨rfl, hb1⟩
  refine hK _ _ ?_
  clear hK K
  refine wpAny_ready (rs := [2]) (by kernel_rfl) (by simp) ?_
  refine AllReady.cons rfl (fun K hK => ?_) AllReady.nil
  go_simp
  refine hK _ _ ?_
  clear hK K
  refine wpAny_take (i := 3) (v := undef) rfl (by kernel_rfl) (by kernel_rfl) (by kernel_rfl) (fun _ _ _ h => h) (Or.inr ⟨by kernel_rfl, rfl⟩) ?_
  try simp only [Act.put, List.setIfInBounds_toArray, List.set_cons_zero, List.set_cons_succ]
  refine wpAny_take (i := 4) (v := undef) rfl (by kernel_rfl) (by kernel_rfl) (by kernel_rfl) (fun _ _ _ h => h) (Or.inr ⟨by kernel_rfl, rfl⟩) ?_
  try simp only [Act.put, List.setIfInBounds_toArray, List.set_cons_zero, List.set_cons_succ]
  refine wpAny_take (i := 5) (v := undef) rfl (by kernel_rfl) (by kernel_rfl) (by kernel_rfl) (fun _ _ _ h => h) (Or.inr ⟨by kernel_rfl, rfl⟩) ?_
  try simp only [Act.put, List.setIfInBounds_toArray, List.set_cons_zero, List.set_cons_succ]
  refine wpAny_take (i := 6) (v := undef) rfl (by kernel_rfl) (by kernel_rfl) (by kernel_rfl) (fun _ _ _ h => h) (Or.inr ⟨by kernel_rfl, rfl⟩) ?_
  try simp only [Act.put, List.setIfInBounds_toArray, List.set_cons_zero, List.set_cons_succ]
  refine wpAny_take (i := 7) (v := undef) rfl (by kernel_rfl) (by kernel_rfl) (by kernel_rfl) (fun _ _ _ h => h) (Or.inr ⟨by kernel_rfl, rfl⟩) ?_
  try simp only [Act.put, List.setIfInBounds_toArray, List.set_cons_zero, List.set_cons_succ]
  refine wpAny_take (i := 8) (v := undef) rfl (by kernel_rfl) (by kernel_rfl) (by kernel_rfl) (fun _ _ _ h => h) (Or.inr ⟨by kernel_rfl, rfl⟩) ?_
  try simp only [Act.put, List.setIfInBounds_toArray, List.set_cons_zero, List.set_cons_succ]
  refine wpAny_take (i := 9) (v := undef) rfl (by kernel_rfl) (by kernel_rfl) (by kernel_rfl) (fun _ _ _ h => h) (Or.inr ⟨by kernel_rfl, rfl⟩) ?_
  try simp only [Act.put, List.setIfInBounds_toArray, List.set_cons_zero, List.set_cons_succ]
  refine wpAny_take (i := 10) (v := undef) rfl (by kernel_rfl) (by kernel_rfl) (by kernel_rfl) (fun _ _ _ h => h) (Or.inr ⟨by kernel_rfl, rfl⟩) ?_
  try simp only [Act.put, List.setIfInBounds_toArray, List.set_cons_zero, List.set_cons_succ]
  refine wpAny_take (i := 11) (v := undef) rfl (by kernel_rfl) (by kernel_rfl) (by kernel_rfl) (fun _ _ _ h => h) (Or.inr ⟨by kernel_rfl, rfl⟩) ?_
  try simp only [Act.put, List.setIfInBounds_toArray, List.set_cons_zero, List.set_cons_succ]
  refine wpAny_take (i := 12) (v := undef) rfl (by kernel_rfl) (by kernel_rfl) (by kernel_rfl) (fun _ _ _ h => h) (Or.inr ⟨by kernel_rfl, rfl⟩) ?_
  try simp only [Act.put, List.setIfInBounds_toArray, List.set_cons_zero, List.set_cons_succ]
  refine wpAny_take (i := 13) (v := undef) rfl (by kernel_rfl) (by kernel_rfl) (by kernel_rfl) (fun _ _ _ h => h) (Or.inr ⟨by kernel_rfl, rfl⟩) ?_
  try simp only [Act.put, List.setIfInBounds_toArray, List.set_cons_zero, List.set_cons_succ]
  refine wpAny_take (i := 14) (v := undef) rfl (by kernel_rfl) (by kernel_rfl) (by kernel_rfl) (fun _ _ _ h => h) (Or.inr ⟨by kernel_rfl, rfl⟩) ?_
  try simp only [Act.put, List.setIfInBounds_toArray, List.set_cons_zero, List.set_cons_succ]
  refine wpAny_take (i := 15) (v := undef) rfl (by kernel_rfl) (by kernel_rfl) (by kernel_rfl) (fun _ _ _ h => h) (Or.inr ⟨by kernel_rfl, rfl⟩) ?_
  try simp only [Act.put, List.setIfInBounds_toArray, List.set_cons_zero, List.set_cons_succ]
  refine wpAny_ready (rs := [16]) (by kernel_rfl) (by simp) ?_
  refine AllReady.cons rfl (fun K hK => ?_) AllReady.nil
  go_simp
  refine hK _ _ ?_
  clear hK K
  refine wpAny_ready (rs := [17]) (by kernel_rfl) (by simp) ?_
  refine AllReady.cons rfl (fun K hK => ?_) AllReady.nil
  go_simp
  refine hK _ _ ?_
  clear hK K
  refine wpAny_done (by kernel_rfl) ?_ _
  go_wp2
  go_ret
  exact ⟨rfl, HB'.out.drew.trans (hb1.mono (by simp))⟩
set_option maxHeartbeats 400000 in
theorem cmp_no1 (n1 d1 n2 d2 : Nat) (w : World) (hok1 : okR n1 d1 = false) :
    Calls Tryd.prog 14 #[.agg #[.int .u64 n1, .int .u64 d1], .agg #[.int .u64 n2, .int .u64 d2]] w fun e w' => e = .returned (.int .i64 0) ∧ Below w.heap.size w w' := by
  have HR := Lib.hid (right_any n1 d1)
  rw [hok1] at HR
  clear hok1
  go_enter Tryd.func14, Tryd.ntmps14
  go_wp2_with (first
    | (go_at_call_of 10 (Value.agg #[.int .u64 n1, .int .u64 d1]); refine (HR.out _).mono ?_; rintro e w1 ⟨rfl, hb1⟩))
  go_ret
  exact ⟨rfl, (((Below.refl _ _).alloc (Nat.le_refl _) _).alloc (by simp) _).trans (hb1.mono (by simp; omega))⟩
set_option maxHeartbeats 400000 in
theorem cmp_no2 (n1 d1 n2 d2 : Nat) (w : World) (hok1 : okR n1 d1 = true) (hok2 : okR n2 d2 = false) :
    Calls Tryd.prog 14 #[.agg #[.int .u64 n1, .int .u64 d1], .agg #[.int .u64 n2, .int .u64 d2]] w fun e w' => e = .returned (.int .i64 0) ∧ Below w.heap.size w w' := by
  have HR := Lib.hid (right_any n1 d1)
  rw [hok1] at HR
  have HR2 := Lib.hid (right_any n2 d2)
  rw [hok2] at HR2
  clear hok1 hok2
  go_enter Tryd.func14, Tryd.ntmps14
  go_wp2_with (first
    | (go_at_call_of 10 (Value.agg #[.int .u64 n1, .int .u64 d1]); refine (HR.out _).mono ?_; rintro e w1 ⟨rfl, hb1⟩; obtain ⟨hc1, hf1⟩ := bcell hb1)
    | (go_at_call_of 10 (Value.agg #[.int .u64 n2, .int .u64 d2]); refine (HR2.out _).mono ?_; rintro e w2 ⟨rfl, hb2⟩))
  go_ret
  exact ⟨rfl, (two_boxes w _ _ _ _ _ hb1 hb2).2.2.2.2.2⟩
def cmpR (n1 d1 n2 d2 : Nat) : Int := if okR n1 d1 = true ∧ okR n2 d2 = true then cmpZ (n1 * d2) (n2 * d1) else 0
theorem cmp_any (n1 d1 n2 d2 : Nat) (h1 : n1 < 18446744073709551616) (h2 : d1 < 18446744073709551616) (h3 : n2 < 18446744073709551616) (h4 : d2 < 18446744073709551616) (w : World) :
    Calls Tryd.prog 14 #[.agg #[.int .u64 n1, .int .u64 d1], .agg #[.int .u64 n2, .int .u64 d2]] w fun e w' => e = .returned (.int .i64 (cmpR n1 d1 n2 d2)) ∧ Below w.heap.size w w' := by
  unfold cmpR
  cases e1 : okR n1 d1
  · rw [if_neg (fun h => by simp at h)]; exact cmp_no1 n1 d1 n2 d2 w e1
  · cases e2 : okR n2 d2
    · rw [if_neg (fun h => by simp at h)]; exact cmp_no2 n1 d1 n2 d2 w e1 e2
    · rw [if_pos ⟨rfl, rfl⟩]; exact cmp_ok n1 d1 n2 d2 h1 h2 h3 h4 w e1 e2

theorem gcd_step (a b : Nat) (h : b ≠ 0) : Nat.gcd b (a % b) = Nat.gcd a b := by
  rw [Nat.gcd_comm a b, Nat.gcd_rec b a, Nat.gcd_comm]
set_option maxRecDepth 1000000 in
set_option maxHeartbeats 400000 in
theorem divisor_any (a b : Nat) (ha : a < 18446744073709551616) (hb : b < 18446744073709551616) (w : World) :
    Calls Tryd.prog 32 #[.int .u64 a, .int .u64 b] w fun e w' => e = .returned (.int .u64 (Nat.gcd a b : Nat)) ∧ Below w.heap.size w w' := by
  go_enter Tryd.func32, Tryd.ntmps32
  go_wp2
  refine wp_scope_jumps 0 (fun a' w' => ∃ (x y : Nat) (u5 u6 u7 u8 u9 u10 u11 : Value), a' = { tmps := #[.int .u64 x, .int .u64 y, undef, undef, .int .u64 0, u5, u6, u7, u8, u9, u10, u11], defers := [] } ∧ Hid (Nat.gcd x y = Nat.gcd a b) ∧ x < 18446744073709551616 ∧ y < 18446744073709551616 ∧ Below w.heap.size w w') (fun a' _ => (RowKit.intOf (a'.tmps.getD 1 undef)).toNat) rfl ?_ ?_
  · go_wp2
    go_step3
    by_cases h0 : b = 0
    · subst h0
      go_wp2
      simp only [Exit.jump]
      go_ret
      exact ⟨by rw [Nat.gcd_zero_right]; rfl, Below.refl _ _⟩
    · have hb0 : ((b : Int) == 0) = false := by simpa using h0
      have hr : (b : Int) ≠ 0 := by omega
      have E := Lib.hid (gcd_step a b h0)
      have L := Nat.mod_lt a (Nat.pos_of_ne_zero h0)
      go_wp2
      go_region
      go_wp2
      go_step3
      exact ⟨rfl, b, a % b, _, _, _, _, _, _, _, rfl, Lib.hid E.out, hb, by omega, (Below.refl _ _).drew⟩
  · rintro a' w' ⟨x, y, u5, u6, u7, u8, u9, u10, u11, rfl, hg, hx, hy, hB⟩
    by_cases h0 : y = 0
    · subst h0
      go_wp2
      simp only [Exit.jump]
      go_ret
      exact ⟨by rw [← hg.out, Nat.gcd_zero_right]; rfl, hB⟩
    · have hb0 : ((y : Int) == 0) = false := by simpa using h0
      have hr : (y : Int) ≠ 0 := by omega
      have E := Lib.hid (gcd_step x y h0)
      have L := Nat.mod_lt x (Nat.pos_of_ne_zero h0)
      go_wp2
      go_region
      go_wp2
      go_step3
      refine ⟨rfl, ⟨y, x % y, _, _, _, _, _, _, _, rfl, Lib.hid (E.out.trans hg.out), hy, by omega, hB.drew⟩, ?_⟩
      simp [RowKit.intOf]
      omega
theorem within_any (v n d base : Nat) (hv : v < 18446744073709551616) (hn : n < 18446744073709551616) (hd : d < 18446744073709551616) (hs : base < 18446744073709551616) (w : World) :
    Calls Tryd.prog 18 #[.int .u64 v, .agg #[.int .u64 n, .int .u64 d], .int .u64 base] w fun e w' => e = .returned (.bool (withinB v n d base)) ∧ Below w.heap.size w w' := by
  unfold withinB
  cases e1 : okR n d
  · exact within_no v n d base e1 w
  · exact within_ok v n d base hv hn hd hs e1 w
theorem okR_le {n d : Nat} (h : okR n d = true) : n ≤ 1048576 ∧ 1 ≤ d ∧ d ≤ 1048576 := by
  simpa [okR] using h
theorem stretched_any (v n d base : Nat) (hv : v < 18446744073709551616) (hn : n < 18446744073709551616) (hd : d < 18446744073709551616) (hs : base < 18446744073709551616) (w : World) :
    Calls Tryd.prog 20 #[.int .u64 v, .agg #[.int .u64 n, .int .u64 d], .int .u64 base] w fun e w' => e = .returned (.bool (strB v n d base)) ∧ Below w.heap.size w w' := by
  unfold strB
  cases e1 : okR n d
  · exact str_no v n d base e1 w
  · have := okR_le e1
    exact str_ok v n d base hv hn hd hs e1 (by omega) w
def redN (n d : Nat) : Nat := if okR n d = true then n / Nat.gcd n d else 0
def redD (n d : Nat) : Nat := if okR n d = true then d / Nat.gcd n d else 0
theorem ret_two {a a' b b' : Int} (h : a = a') (h' : b = b') : Ending.returned (.agg #[.int .u64 a, .int .u64 b]) = Ending.returned (.agg #[.int .u64 a', .int .u64 b']) := by rw [h, h']
/-- One pair boxed, one cell of two for the result, and a call that writes nothing that was there. -/
theorem box_res (w : World) (a b1 c d : Value) (T T' : TypeId) {w1 : World} (h1 : Below ((w.alloc (.cells #[a, b1] T)).alloc (.cells #[c, d] T')).heap.size ((w.alloc (.cells #[a, b1] T)).alloc (.cells #[c, d] T')) w1) :
    w1.cell? ⟨w.heap.size, 0, none⟩ = some a ∧ w1.cell? ⟨w.heap.size, 1, none⟩ = some b1 ∧ w1.cell? ⟨w.heap.size + 1, 0, none⟩ = some c ∧ w1.cell? ⟨w.heap.size + 1, 1, none⟩ = some d ∧ w1.frozen? ⟨w.heap.size + 1, 0, none⟩ = false ∧ w1.frozen? ⟨w.heap.size + 1, 1, none⟩ = false ∧ w.heap.size + 2 ≤ w1.heap.size ∧ Below w.heap.size w w1 := by
  have hs1 := h1.size
  simp at hs1
  have e : ∀ b o, b < w.heap.size + 2 → w1.cell? ⟨b, o, none⟩ = ((w.alloc (.cells #[a, b1] T)).alloc (.cells #[c, d] T')).cell? ⟨b, o, none⟩ := fun b o hb => by
    rw [h1.cell (p := ⟨b, o, none⟩) (by show b < _; simp; omega)]
  have f : ∀ b o, b < w.heap.size + 2 → w1.frozen? ⟨b, o, none⟩ = ((w.alloc (.cells #[a, b1] T)).alloc (.cells #[c, d] T')).frozen? ⟨b, o, none⟩ := fun b o hb => by
    rw [h1.frozen (p := ⟨b, o, none⟩) (by show b < _; simp; omega)]
  refine ⟨by rw [e _ _ (by omega)]; simp, by rw [e _ _ (by omega)]; simp, by rw [e _ _ (by omega)]; simp, by rw [e _ _ (by omega)]; simp, by rw [f _ _ (by omega)]; simp, by rw [f _ _ (by omega)]; simp, by omega, ?_⟩
  exact (((Below.refl w.heap.size w).alloc (Nat.le_refl _) _).alloc (by simp) _).trans (h1.mono (by simp; omega))
theorem keepR {B : Nat} {a b1 c d : Value} {W w1 w2 : World} (hb : Below w1.heap.size w1 w2) (c1 : w1.cell? ⟨B, 0, none⟩ = some a) (c2 : w1.cell? ⟨B, 1, none⟩ = some b1) (c3 : w1.cell? ⟨B + 1, 0, none⟩ = some c) (c4 : w1.cell? ⟨B + 1, 1, none⟩ = some d)
    (f1 : w1.frozen? ⟨B + 1, 0, none⟩ = false) (f2 : w1.frozen? ⟨B + 1, 1, none⟩ = false) (hs : B + 2 ≤ w1.heap.size) (HB : Below B W w1) :
    w2.cell? ⟨B, 0, none⟩ = some a ∧ w2.cell? ⟨B, 1, none⟩ = some b1 ∧ w2.cell? ⟨B + 1, 0, none⟩ = some c ∧ w2.cell? ⟨B + 1, 1, none⟩ = some d ∧ w2.frozen? ⟨B + 1, 0, none⟩ = false ∧ w2.frozen? ⟨B + 1, 1, none⟩ = false ∧ Below B W w2 := by
  obtain ⟨k1, k2, k3, k4, ks⟩ := keep4 hb c1 c2 c3 c4 hs
  refine ⟨k1, k2, k3, k4, ?_, ?_, HB.trans (hb.mono (by omega))⟩
  · rw [hb.frozen (p := ⟨B + 1, 0, none⟩) (by show B + 1 < _; omega)]; exact f1
  · rw [hb.frozen (p := ⟨B + 1, 1, none⟩) (by show B + 1 < _; omega)]; exact f2
set_option maxHeartbeats 400000 in
theorem reduce_no (n d : Nat) (hok : okR n d = false) (w : World) :
    Calls Tryd.prog 16 #[.agg #[.int .u64 n, .int .u64 d]] w fun e w' => e = .returned (.agg #[.int .u64 0, .int .u64 0]) ∧ Below w.heap.size w w' := by
  have HR := Lib.hid (right_any n d)
  rw [hok] at HR
  clear hok
  go_enter Tryd.func16, Tryd.ntmps16
  go_wp2_with (first
    | (go_at_call 10; refine (HR.out _).mono ?_; rintro e w1 ⟨rfl, hb1⟩; obtain ⟨c1, c2, c3, c4, f1, f2, hs, HB⟩ := box_res w _ _ _ _ _ _ hb1))
  refine bodyPost_ret (v := .agg #[.int .u64 0, .int .u64 0]) ?_ rfl ⟨rfl, (HB.setCell (p := ⟨w.heap.size + 1, 0, none⟩) (by show _ ≤ w.heap.size + 1; omega) _).setCell (p := ⟨w.heap.size + 1, 1, none⟩) (by show _ ≤ w.heap.size + 1; omega) _⟩
  simp [results, Tryd.results16, go_sem, c1, c2, c3, c4]
set_option maxHeartbeats 1000000 in
theorem reduce_ok (n d : Nat) (hn : n < 18446744073709551616) (hd : d < 18446744073709551616) (hok : okR n d = true) (w : World) :
    Calls Tryd.prog 16 #[.agg #[.int .u64 n, .int .u64 d]] w fun e w' => e = .returned (.agg #[.int .u64 (n / Nat.gcd n d : Nat), .int .u64 (d / Nat.gcd n d : Nat)]) ∧ Below w.heap.size w w' := by
  have hle := okR_le hok
  have HD := Lib.hid (divisor_any n d hn hd)
  have hg : 0 < Nat.gcd n d := Nat.gcd_pos_of_pos_right _ (by omega)
  have HR := Lib.hid (right_any n d)
  rw [hok] at HR
  generalize Nat.gcd n d = g at *
  obtain ⟨x, hx⟩ : ∃ x, x = n / g := ⟨_, rfl⟩
  obtain ⟨y, hy⟩ : ∃ y, y = d / g := ⟨_, rfl⟩
  have hxl : x ≤ n := by rw [hx]; exact Nat.div_le_self _ _
  have hyl : y ≤ d := by rw [hy]; exact Nat.div_le_self _ _
  have q1 : IntKind.u64.wrap ((n : Int) / g) = (x : Int) := by rw [show (n : Int) / g = (x : Int) by rw [hx]; rfl]; exact IntWalk.u64_in _ ⟨by omega, by omega⟩
  have q2 : IntKind.u64.wrap ((d : Int) / g) = (y : Int) := by rw [show (d : Int) / g = (y : Int) by rw [hy]; rfl]; exact IntWalk.u64_in _ ⟨by omega, by omega⟩
  have hg0 : (g : Int) ≠ 0 := by omega
  rw [← hx, ← hy]
  clear hx hy hxl hyl hle hok hn hd
  go_enter Tryd.func16, Tryd.ntmps16
  go_wp2_with (first
    | (go_at_call 10; refine (HR.out _).mono ?_; rintro e w1 ⟨rfl, hb1⟩; obtain ⟨c1, c2, c3, c4, f1, f2, hs, HB⟩ := box_res w _ _ _ _ _ _ hb1)
    | (go_at_call 32; refine (HD.out _).mono ?_; rintro e w2 ⟨rfl, hb2⟩))
  obtain ⟨k1, k2, k3, k4, k5, k6, HB2⟩ := keepR hb2 c1 c2 c3 c4 f1 f2 hs HB
  have HB3 := Lib.hid HB2
  clear c1 c2 c3 c4 f1 f2 hs HB HB2 hb1 hb2 HR HD
  go_region
  go_wp2
  refine bodyPost_ret (v := .agg #[.int .u64 x, .int .u64 y]) ?_ rfl ⟨rfl, ((HB3.out.setCell (p := ⟨w.heap.size + 1, 0, none⟩) (by show _ ≤ w.heap.size + 1; omega) _).setCell (p := ⟨w.heap.size + 1, 1, none⟩) (by show _ ≤ w.heap.size + 1; omega) _).drew⟩
  simp [results, Tryd.results16, go_sem, k3, k4]
theorem reduce_any (n d : Nat) (hn : n < 18446744073709551616) (hd : d < 18446744073709551616) (w : World) :
    Calls Tryd.prog 16 #[.agg #[.int .u64 n, .int .u64 d]] w fun e w' => e = .returned (.agg #[.int .u64 (redN n d : Nat), .int .u64 (redD n d : Nat)]) ∧ Below w.heap.size w w' := by
  unfold redN redD
  cases e1 : okR n d
  · rw [if_neg (by simp), if_neg (by simp)]; exact reduce_no n d e1 w
  · rw [if_pos rfl, if_pos rfl]; exact reduce_ok n d hn hd e1 w
