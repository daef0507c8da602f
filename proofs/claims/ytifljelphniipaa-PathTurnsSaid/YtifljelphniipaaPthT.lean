import Derived.Test.YtifljelphniipaaPthP
set_option linter.unusedVariables false
set_option linter.unusedSimpArgs false
namespace Go.Proofs.Ytifljelphniipaa
open Go.RowKit
attribute [local go_sem ↓] Go.wp_at_zero Go.wp_at_succ
/-- Three routes in their boxes, and what is known of the world. -/
def PT (w0 : World) (A : Nat) (v1 v2 v3 : Value) (x y z : Nat) (xs ys zs : List Int) (W : World) : Prop := W.cell? ⟨A, 0, none⟩ = some v1 ∧ W.cell? ⟨A, 1, none⟩ = some (.int .u64 (x : Int)) ∧ W.cell? ⟨A + 1, 0, none⟩ = some v2 ∧ W.cell? ⟨A + 1, 1, none⟩ = some (.int .u64 (y : Int)) ∧ W.cell? ⟨A + 1 + 1, 0, none⟩ = some v3 ∧ W.cell? ⟨A + 1 + 1, 1, none⟩ = some (.int .u64 (z : Int)) ∧ Hid (IntsAt W v1 xs ∧ IntsAt W v2 ys ∧ IntsAt W v3 zs ∧ Below w0.heap.size w0 W)
theorem PT.on {w0 : World} {A : Nat} {v1 v2 v3 : Value} {x y z : Nat} {xs ys zs : List Int} {W w1 : World} (hb : Below W.heap.size W w1) (h : PT w0 A v1 v2 v3 x y z xs ys zs W) : PT w0 A v1 v2 v3 x y z xs ys zs w1 :=
  ⟨cell_on hb h.1, cell_on hb h.2.1, cell_on hb h.2.2.1, cell_on hb h.2.2.2.1, cell_on hb h.2.2.2.2.1, cell_on hb h.2.2.2.2.2.1, Lib.hid ⟨h.2.2.2.2.2.2.out.1.on hb, h.2.2.2.2.2.2.out.2.1.on hb, h.2.2.2.2.2.2.out.2.2.1.on hb, on_trans h.2.2.2.2.2.2.out.2.2.2 hb⟩⟩
theorem agg2p (w : World) (x y : Value) (T : TypeId) : (w.alloc (.cells #[x, y] T)).cell? ⟨w.heap.size, 0, none⟩ = some x ∧ (w.alloc (.cells #[x, y] T)).cell? ⟨w.heap.size, 1, none⟩ = some y := by simp
/-- The three boxes. -/
theorem PT.boxes {w : World} {a1 a2 a3 : Option Addr} {k1 k2 k3 c1 c2 c3 : Nat} {x y z : Nat} {xs ys zs : List Int} (h1 : IntsAt w (.slice a1 k1 c1) xs) (h2 : IntsAt w (.slice a2 k2 c2) ys) (h3 : IntsAt w (.slice a3 k3 c3) zs) :
    PT w w.heap.size (.slice a1 k1 c1) (.slice a2 k2 c2) (.slice a3 k3 c3) x y z xs ys zs (((w.alloc (.cells #[.slice a1 k1 c1, .int .u64 (x : Int)] 40)).alloc (.cells #[.slice a2 k2 c2, .int .u64 (y : Int)] 40)).alloc (.cells #[.slice a3 k3 c3, .int .u64 (z : Int)] 40)) := by
  obtain ⟨WA, hWA⟩ : ∃ WA, (w.alloc (.cells #[.slice a1 k1 c1, .int .u64 (x : Int)] 40)) = WA := ⟨_, rfl⟩
  have g1 := (Below.refl w.heap.size w).alloc (Nat.le_refl _) (.cells #[.slice a1 k1 c1, .int .u64 (x : Int)] 40)
  have z1 : WA.heap.size = w.heap.size + 1 := by rw [← hWA, World.size_alloc]
  have p1 := agg2p w (.slice a1 k1 c1) (.int .u64 (x : Int)) 40
  rw [hWA] at g1 p1 ⊢
  obtain ⟨WB, hWB⟩ : ∃ WB, WA.alloc (.cells #[.slice a2 k2 c2, .int .u64 (y : Int)] 40) = WB := ⟨_, rfl⟩
  have g2 := (Below.refl WA.heap.size WA).alloc (Nat.le_refl _) (.cells #[.slice a2 k2 c2, .int .u64 (y : Int)] 40)
  have z2 : WB.heap.size = w.heap.size + 1 + 1 := by rw [← hWB, World.size_alloc, z1]
  have p2 := agg2p WA (.slice a2 k2 c2) (.int .u64 (y : Int)) 40
  rw [z1] at p2
  rw [hWB] at g2 p2 ⊢
  have g3 := (Below.refl WB.heap.size WB).alloc (Nat.le_refl _) (.cells #[.slice a3 k3 c3, .int .u64 (z : Int)] 40)
  have p3 := agg2p WB (.slice a3 k3 c3) (.int .u64 (z : Int)) 40
  rw [z2] at p3
  exact ⟨cell_on g3 (cell_on g2 p1.1), cell_on g3 (cell_on g2 p1.2), cell_on g3 p2.1, cell_on g3 p2.2, p3.1, p3.2, Lib.hid ⟨((h1.on g1).on g2).on g3, ((h2.on g1).on g2).on g3, ((h3.on g1).on g2).on g3, on_trans (on_trans g1 g2) g3⟩⟩
theorem wrap_neg1 {q r : Int} (h : q = -r) (hr : r = -1 ∨ r = 0 ∨ r = 1) : IntKind.i64.wrap (-r) = q := by
  rcases hr with rfl | rfl | rfl <;> (rw [h]; rfl)
set_option maxHeartbeats 4000000 in
theorem turns_a (S : PathSpec) (x y z : Nat) (a1 a2 a3 : Option Addr) (k1 k2 k3 c1 c2 c3 : Nat) (xs ys zs : List Int) (m1 : xs.length = k1) (m2 : ys.length = k2) (m3 : zs.length = k3) (l1 : k1 ≤ 100) (l2 : k2 ≤ 100) (l3 : k3 ≤ 100) (w : World) (h1 : IntsAt w (.slice a1 k1 c1) xs) (h2 : IntsAt w (.slice a2 k2 c2) ys) (h3 : IntsAt w (.slice a3 k3 c3) zs) (g1 : decide (0 < cmpF x xs y ys) = true) :
    Calls Try.prog 6 #[.agg #[.slice a1 k1 c1, .int .u64 (x : Int)], .agg #[.slice a2 k2 c2, .int .u64 (y : Int)], .agg #[.slice a3 k3 c3, .int .u64 (z : Int)]] w fun e w' => e = .returned (.bool true) ∧ Below w.heap.size w w' := by
  have HP0 : Hid (PT w w.heap.size (.slice a1 k1 c1) (.slice a2 k2 c2) (.slice a3 k3 c3) x y z xs ys zs (((w.alloc (.cells #[.slice a1 k1 c1, .int .u64 (x : Int)] 40)).alloc (.cells #[.slice a2 k2 c2, .int .u64 (y : Int)] 40)).alloc (.cells #[.slice a3 k3 c3, .int .u64 (z : Int)] 40))) := Lib.hid (PT.boxes h1 h2 h3)
  have HC1 := Lib.hid (fun W (h : IntsAt W (.slice a1 k1 c1) xs ∧ IntsAt W (.slice a2 k2 c2) ys ∧ IntsAt W (.slice a3 k3 c3) zs ∧ Below w.heap.size w W) => S.cmp x y (.slice a1 k1 c1) (.slice a2 k2 c2) xs ys W (by omega) (by omega) h.1 h.2.1)
  have HC2 := Lib.hid (fun W (h : IntsAt W (.slice a1 k1 c1) xs ∧ IntsAt W (.slice a2 k2 c2) ys ∧ IntsAt W (.slice a3 k3 c3) zs ∧ Below w.heap.size w W) => S.cmp y x (.slice a2 k2 c2) (.slice a1 k1 c1) ys xs W (by omega) (by omega) h.2.1 h.1)
  have HC3 := Lib.hid (fun W (h : IntsAt W (.slice a1 k1 c1) xs ∧ IntsAt W (.slice a2 k2 c2) ys ∧ IntsAt W (.slice a3 k3 c3) zs ∧ Below w.heap.size w W) => S.cmp y z (.slice a2 k2 c2) (.slice a3 k3 c3) ys zs W (by omega) (by omega) h.2.1 h.2.2.1)
  have HC4 := Lib.hid (fun W (h : IntsAt W (.slice a1 k1 c1) xs ∧ IntsAt W (.slice a2 k2 c2) ys ∧ IntsAt W (.slice a3 k3 c3) zs ∧ Below w.heap.size w W) => S.cmp x z (.slice a1 k1 c1) (.slice a3 k3 c3) xs zs W (by omega) (by omega) h.1 h.2.2.1)
  have HAL := Lib.hid (fun W (h : IntsAt W (.slice a1 k1 c1) xs ∧ IntsAt W (.slice a2 k2 c2) ys ∧ IntsAt W (.slice a3 k3 c3) zs ∧ Below w.heap.size w W) => palive_any S W)
  have hneg := wrap_neg1 (cmpF_neg x y xs ys) (cmpF_rng y x ys xs)
  generalize cmpF x xs y ys = q1 at *
  generalize cmpF y ys x xs = q2 at *
  generalize cmpF y ys z zs = q3 at *
  generalize cmpF x xs z zs = q4 at *
  have d1 : decide ((100 : Int) < (k1 : Int)) = false := decide_eq_false (by omega)
  have d2 : decide ((100 : Int) < (k2 : Int)) = false := decide_eq_false (by omega)
  have d3 : decide ((100 : Int) < (k3 : Int)) = false := decide_eq_false (by omega)
  have d1' : decide (100 < k1) = false := decide_eq_false (by omega)
  have d2' : decide (100 < k2) = false := decide_eq_false (by omega)
  have d3' : decide (100 < k3) = false := decide_eq_false (by omega)
  clear m1 m2 m3 l1 l2 l3 h1 h2 h3 S
  obtain ⟨p0, p1, p2, p3, p4, p5, _⟩ := HP0.out
  go_enter Try.func6, Try.ntmps6
  go_wp2
  clear p0 p1 p2 p3 p4 p5
  refine wp_region_held_drew (S := fun w' => PT w w.heap.size (.slice a1 k1 c1) (.slice a2 k2 c2) (.slice a3 k3 c3) x y z xs ys zs w') (by kernel_rfl) ?_ (fun hHeld => ?_)
  · exact HP0.out.on (Below.refl _ _).drew
  refine wpAnyH_take (i := 0) (v := ?_) rfl (by kernel_rfl) (by kernel_rfl) (by kernel_rfl) (fun _ _ _ h => h) (Or.inl ⟨by rfl, ?_⟩) (by assumption) ?_
  rotate_left 1
  · intro w hSw
    obtain ⟨s0, s1, s2, s3, s4, s5, s6⟩ := hSw
    go_simp
    try with_reducible rfl
  try simp only [Act.put, List.getElem_toArray, List.getElem_cons_succ, List.getElem_cons_zero, List.setIfInBounds_toArray, List.set_cons_zero, List.set_cons_succ]
  refine wpAnyH_take (i := 1) (v := ?_) rfl (by kernel_rfl) (by kernel_rfl) (by kernel_rfl) (fun _ _ _ h => h) (Or.inl ⟨by rfl, ?_⟩) (by assumption) ?_
  rotate_left 1
  · intro w hSw
    obtain ⟨s0, s1, s2, s3, s4, s5, s6⟩ := hSw
    go_simp
    try with_reducible rfl
  try simp only [Act.put, List.getElem_toArray, List.getElem_cons_succ, List.getElem_cons_zero, List.setIfInBounds_toArray, List.set_cons_zero, List.set_cons_succ]
  refine wpAnyH_take (i := 3) (v := ?_) rfl (by kernel_rfl) (by kernel_rfl) (by kernel_rfl) (fun _ _ _ h => h) (Or.inl ⟨by rfl, ?_⟩) (by assumption) ?_
  rotate_left 1
  · intro w hSw
    obtain ⟨s0, s1, s2, s3, s4, s5, s6⟩ := hSw
    go_simp
    try with_reducible rfl
  try simp only [Act.put, List.getElem_toArray, List.getElem_cons_succ, List.getElem_cons_zero, List.setIfInBounds_toArray, List.set_cons_zero, List.set_cons_succ]
  refine wpAnyH_take (i := 4) (v := ?_) rfl (by kernel_rfl) (by kernel_rfl) (by kernel_rfl) (fun _ _ _ h => h) (Or.inl ⟨by rfl, ?_⟩) (by assumption) ?_
  rotate_left 1
  · intro w hSw
    obtain ⟨s0, s1, s2, s3, s4, s5, s6⟩ := hSw
    go_simp
    try with_reducible rfl
  try simp only [Act.put, List.getElem_toArray, List.getElem_cons_succ, List.getElem_cons_zero, List.setIfInBounds_toArray, List.set_cons_zero, List.set_cons_succ]
  refine wpAnyH_ready (rs := [2]) (by kernel_rfl) (by simp) ?_
  refine AllReadyH.cons rfl (fun K hK => ?_) AllReadyH.nil
  go_simp
  refine (HC1.out _ hHeld.2.2.2.2.2.2.out).mono ?_
  rintro e w9 ⟨rfl, hB⟩
  refine hK.out _ _ (PT.on hB hHeld) (fun hHeld => ?_)
  clear hK K
  try simp only [Act.put, List.getElem_toArray, List.getElem_cons_succ, List.getElem_cons_zero, List.setIfInBounds_toArray, List.set_cons_zero, List.set_cons_succ]
  refine wpAnyH_ready (rs := [5]) (by kernel_rfl) (by simp) ?_
  refine AllReadyH.cons rfl (fun K hK => ?_) AllReadyH.nil
  go_simp
  refine (HC2.out _ hHeld.2.2.2.2.2.2.out).mono ?_
  rintro e w9 ⟨rfl, hB⟩
  refine hK.out _ _ (PT.on hB hHeld) (fun hHeld => ?_)
  clear hK K
  try simp only [Act.put, List.getElem_toArray, List.getElem_cons_succ, List.getElem_cons_zero, List.setIfInBounds_toArray, List.set_cons_zero, List.set_cons_succ]
  refine wpAnyH_take (i := 6) (v := ?_) rfl (by kernel_rfl) (by kernel_rfl) (by kernel_rfl) (fun _ _ _ h => h) (Or.inl ⟨by rfl, ?_⟩) (by assumption) ?_
  rotate_left 1
  · intro w hSw
    obtain ⟨s0, s1, s2, s3, s4, s5, s6⟩ := hSw
    go_simp
    try with_reducible rfl
  try simp only [Act.put, List.getElem_toArray, List.getElem_cons_succ, List.getElem_cons_zero, List.setIfInBounds_toArray, List.set_cons_zero, List.set_cons_succ]
  refine wpAnyH_take (i := 7) (v := ?_) rfl (by kernel_rfl) (by kernel_rfl) (by kernel_rfl) (fun _ _ _ h => h) (Or.inl ⟨by rfl, ?_⟩) (by assumption) ?_
  rotate_left 1
  · intro w hSw
    obtain ⟨s0, s1, s2, s3, s4, s5, s6⟩ := hSw
    go_simp
    try with_reducible rfl
  try simp only [Act.put, List.getElem_toArray, List.getElem_cons_succ, List.getElem_cons_zero, List.setIfInBounds_toArray, List.set_cons_zero, List.set_cons_succ]
  refine wpAnyH_take (i := 8) (v := ?_) rfl (by kernel_rfl) (by kernel_rfl) (by kernel_rfl) (fun _ _ _ h => h) (Or.inl ⟨by rfl, ?_⟩) (by assumption) ?_
  rotate_left 1
  · intro w hSw
    obtain ⟨s0, s1, s2, s3, s4, s5, s6⟩ := hSw
    go_simp
    try with_reducible rfl
  try simp only [Act.put, List.getElem_toArray, List.getElem_cons_succ, List.getElem_cons_zero, List.setIfInBounds_toArray, List.set_cons_zero, List.set_cons_succ]
  refine wpAnyH_take (i := 9) (v := ?_) rfl (by kernel_rfl) (by kernel_rfl) (by kernel_rfl) (fun _ _ _ h => h) (Or.inl ⟨by rfl, ?_⟩) (by assumption) ?_
  rotate_left 1
  · intro w hSw
    obtain ⟨s0, s1, s2, s3, s4, s5, s6⟩ := hSw
    go_simp
    try with_reducible rfl
  try simp only [Act.put, List.getElem_toArray, List.getElem_cons_succ, List.getElem_cons_zero, List.setIfInBounds_toArray, List.set_cons_zero, List.set_cons_succ]
  refine wpAnyH_take (i := 10) (v := ?_) rfl (by kernel_rfl) (by kernel_rfl) (by kernel_rfl) (fun _ _ _ h => h) (Or.inl ⟨by rfl, ?_⟩) (by assumption) ?_
  rotate_left 1
  · intro w hSw
    obtain ⟨s0, s1, s2, s3, s4, s5, s6⟩ := hSw
    go_simp
    try with_reducible rfl
  try simp only [Act.put, List.getElem_toArray, List.getElem_cons_succ, List.getElem_cons_zero, List.setIfInBounds_toArray, List.set_cons_zero, List.set_cons_succ]
  refine wpAnyH_ready (rs := [11]) (by kernel_rfl) (by simp) ?_
  refine AllReadyH.cons rfl (fun K hK => ?_) AllReadyH.nil
  go_simp
  refine (HC1.out _ hHeld.2.2.2.2.2.2.out).mono ?_
  rintro e w9 ⟨rfl, hB⟩
  refine hK.out _ _ (PT.on hB hHeld) (fun hHeld => ?_)
  clear hK K
  try simp only [Act.put, List.getElem_toArray, List.getElem_cons_succ, List.getElem_cons_zero, List.setIfInBounds_toArray, List.set_cons_zero, List.set_cons_succ]
  refine wpAnyH_take (i := 12) (v := ?_) rfl (by kernel_rfl) (by kernel_rfl) (by kernel_rfl) (fun _ _ _ h => h) (Or.inl ⟨by rfl, ?_⟩) (by assumption) ?_
  rotate_left 1
  · intro w hSw
    obtain ⟨s0, s1, s2, s3, s4, s5, s6⟩ := hSw
    go_simp
    try with_reducible rfl
  try simp only [Act.put, List.getElem_toArray, List.getElem_cons_succ, List.getElem_cons_zero, List.setIfInBounds_toArray, List.set_cons_zero, List.set_cons_succ]
  refine wpAnyH_take (i := 13) (v := ?_) rfl (by kernel_rfl) (by kernel_rfl) (by kernel_rfl) (fun _ _ _ h => h) (Or.inl ⟨by rfl, ?_⟩) (by assumption) ?_
  rotate_left 1
  · intro w hSw
    obtain ⟨s0, s1, s2, s3, s4, s5, s6⟩ := hSw
    go_simp
    try with_reducible rfl
  try simp only [Act.put, List.getElem_toArray, List.getElem_cons_succ, List.getElem_cons_zero, List.setIfInBounds_toArray, List.set_cons_zero, List.set_cons_succ]
  refine wpAnyH_take (i := 14) (v := undef) rfl (by kernel_rfl) (by kernel_rfl) (by kernel_rfl) (fun _ _ _ h => h) (Or.inr ⟨by kernel_rfl, rfl⟩) (by assumption) ?_
  try simp only [Act.put, List.getElem_toArray, List.getElem_cons_succ, List.getElem_cons_zero, List.setIfInBounds_toArray, List.set_cons_zero, List.set_cons_succ]
  refine wpAnyH_take (i := 15) (v := undef) rfl (by kernel_rfl) (by kernel_rfl) (by kernel_rfl) (fun _ _ _ h => h) (Or.inr ⟨by kernel_rfl, rfl⟩) (by assumption) ?_
  try simp only [Act.put, List.getElem_toArray, List.getElem_cons_succ, List.getElem_cons_zero, List.setIfInBounds_toArray, List.set_cons_zero, List.set_cons_succ]
  refine wpAnyH_take (i := 16) (v := undef) rfl (by kernel_rfl) (by kernel_rfl) (by kernel_rfl) (fun _ _ _ h => h) (Or.inr ⟨by kernel_rfl, rfl⟩) (by assumption) ?_
  try simp only [Act.put, List.getElem_toArray, List.getElem_cons_succ, List.getElem_cons_zero, List.setIfInBounds_toArray, List.set_cons_zero, List.set_cons_succ]
  refine wpAnyH_take (i := 17) (v := undef) rfl (by kernel_rfl) (by kernel_rfl) (by kernel_rfl) (fun _ _ _ h => h) (Or.inr ⟨by kernel_rfl, rfl⟩) (by assumption) ?_
  try simp only [Act.put, List.getElem_toArray, List.getElem_cons_succ, List.getElem_cons_zero, List.setIfInBounds_toArray, List.set_cons_zero, List.set_cons_succ]
  refine wpAnyH_take (i := 18) (v := ?_) rfl (by kernel_rfl) (by kernel_rfl) (by kernel_rfl) (fun _ _ _ h => h) (Or.inl ⟨by rfl, ?_⟩) (by assumption) ?_
  rotate_left 1
  · intro w hSw
    obtain ⟨s0, s1, s2, s3, s4, s5, s6⟩ := hSw
    go_simp
    try with_reducible rfl
  try simp only [Act.put, List.getElem_toArray, List.getElem_cons_succ, List.getElem_cons_zero, List.setIfInBounds_toArray, List.set_cons_zero, List.set_cons_succ]
  refine wpAnyH_take (i := 19) (v := ?_) rfl (by kernel_rfl) (by kernel_rfl) (by kernel_rfl) (fun _ _ _ h => h) (Or.inl ⟨by rfl, ?_⟩) (by assumption) ?_
  rotate_left 1
  · intro w hSw
    obtain ⟨s0, s1, s2, s3, s4, s5, s6⟩ := hSw
    go_simp
    try with_reducible rfl
  try simp only [Act.put, List.getElem_toArray, List.getElem_cons_succ, List.getElem_cons_zero, List.setIfInBounds_toArray, List.set_cons_zero, List.set_cons_succ]
  refine wpAnyH_take (i := 20) (v := undef) rfl (by kernel_rfl) (by kernel_rfl) (by kernel_rfl) (fun _ _ _ h => h) (Or.inr ⟨by kernel_rfl, rfl⟩) (by assumption) ?_
  try simp only [Act.put, List.getElem_toArray, List.getElem_cons_succ, List.getElem_cons_zero, List.setIfInBounds_toArray, List.set_cons_zero, List.set_cons_succ]
  refine wpAnyH_take (i := 21) (v := undef) rfl (by kernel_rfl) (by kernel_rfl) (by kernel_rfl) (fun _ _ _ h => h) (Or.inr ⟨by kernel_rfl, rfl⟩) (by assumption) ?_
  try simp only [Act.put, List.getElem_toArray, List.getElem_cons_succ, List.getElem_cons_zero, List.setIfInBounds_toArray, List.set_cons_zero, List.set_cons_succ]
  refine wpAnyH_take (i := 22) (v := undef) rfl (by kernel_rfl) (by kernel_rfl) (by kernel_rfl) (fun _ _ _ h => h) (Or.inr ⟨by kernel_rfl, rfl⟩) (by assumption) ?_
  try simp only [Act.put, List.getElem_toArray, List.getElem_cons_succ, List.getElem_cons_zero, List.setIfInBounds_toArray, List.set_cons_zero, List.set_cons_succ]
  refine wpAnyH_take (i := 23) (v := undef) rfl (by kernel_rfl) (by kernel_rfl) (by kernel_rfl) (fun _ _ _ h => h) (Or.inr ⟨by kernel_rfl, rfl⟩) (by assumption) ?_
  try simp only [Act.put, List.getElem_toArray, List.getElem_cons_succ, List.getElem_cons_zero, List.setIfInBounds_toArray, List.set_cons_zero, List.set_cons_succ]
  refine wpAnyH_take (i := 24) (v := ?_) rfl (by kernel_rfl) (by kernel_rfl) (by kernel_rfl) (fun _ _ _ h => h) (Or.inl ⟨by rfl, ?_⟩) (by assumption) ?_
  rotate_left 1
  · intro w hSw
    obtain ⟨s0, s1, s2, s3, s4, s5, s6⟩ := hSw
    go_simp
    try with_reducible rfl
  try simp only [Act.put, List.getElem_toArray, List.getElem_cons_succ, List.getElem_cons_zero, List.setIfInBounds_toArray, List.set_cons_zero, List.set_cons_succ]
  refine wpAnyH_take (i := 25) (v := ?_) rfl (by kernel_rfl) (by kernel_rfl) (by kernel_rfl) (fun _ _ _ h => h) (Or.inl ⟨by rfl, ?_⟩) (by assumption) ?_
  rotate_left 1
  · intro w hSw
    obtain ⟨s0, s1, s2, s3, s4, s5, s6⟩ := hSw
    go_simp
    try with_reducible rfl
  try simp only [Act.put, List.getElem_toArray, List.getElem_cons_succ, List.getElem_cons_zero, List.setIfInBounds_toArray, List.set_cons_zero, List.set_cons_succ]
  refine wpAnyH_take (i := 26) (v := ?_) rfl (by kernel_rfl) (by kernel_rfl) (by kernel_rfl) (fun _ _ _ h => h) (Or.inl ⟨by rfl, ?_⟩) (by assumption) ?_
  rotate_left 1
  · intro w hSw
    obtain ⟨s0, s1, s2, s3, s4, s5, s6⟩ := hSw
    go_simp
    try with_reducible rfl
  try simp only [Act.put, List.getElem_toArray, List.getElem_cons_succ, List.getElem_cons_zero, List.setIfInBounds_toArray, List.set_cons_zero, List.set_cons_succ]
  refine wpAnyH_ready (rs := [27]) (by kernel_rfl) (by simp) ?_
  refine AllReadyH.cons rfl (fun K hK => ?_) AllReadyH.nil
  go_simp
  refine (HAL.out _ hHeld.2.2.2.2.2.2.out).mono ?_
  rintro e w9 ⟨rfl, hB⟩
  refine hK.out _ _ (PT.on hB hHeld) (fun hHeld => ?_)
  clear hK K
  try simp only [Act.put, List.getElem_toArray, List.getElem_cons_succ, List.getElem_cons_zero, List.setIfInBounds_toArray, List.set_cons_zero, List.set_cons_succ]
  refine wpAnyH_take (i := 28) (v := ?_) rfl (by kernel_rfl) (by kernel_rfl) (by kernel_rfl) (fun _ _ _ h => h) (Or.inl ⟨by rfl, ?_⟩) (by assumption) ?_
  rotate_left 1
  · intro w hSw
    obtain ⟨s0, s1, s2, s3, s4, s5, s6⟩ := hSw
    go_simp
    try with_reducible rfl
  try simp only [Act.put, List.getElem_toArray, List.getElem_cons_succ, List.getElem_cons_zero, List.setIfInBounds_toArray, List.set_cons_zero, List.set_cons_succ]
  refine wpAnyH_take (i := 29) (v := ?_) rfl (by kernel_rfl) (by kernel_rfl) (by kernel_rfl) (fun _ _ _ h => h) (Or.inl ⟨by rfl, ?_⟩) (by assumption) ?_
  rotate_left 1
  · intro w hSw
    obtain ⟨s0, s1, s2, s3, s4, s5, s6⟩ := hSw
    go_simp
    try with_reducible rfl
  try simp only [Act.put, List.getElem_toArray, List.getElem_cons_succ, List.getElem_cons_zero, List.setIfInBounds_toArray, List.set_cons_zero, List.set_cons_succ]
  refine wpAnyH_done (by kernel_rfl) ?_ _
  have HZ := Lib.hid hHeld.2.2.2.2.2.2.out.2.2.2
  clear hHeld
  go_wp2
  go_ret
  exact ⟨rfl, HZ.out⟩
set_option maxHeartbeats 4000000 in
theorem turns_b (S : PathSpec) (x y z : Nat) (a1 a2 a3 : Option Addr) (k1 k2 k3 c1 c2 c3 : Nat) (xs ys zs : List Int) (m1 : xs.length = k1) (m2 : ys.length = k2) (m3 : zs.length = k3) (l1 : k1 ≤ 100) (l2 : k2 ≤ 100) (l3 : k3 ≤ 100) (w : World) (h1 : IntsAt w (.slice a1 k1 c1) xs) (h2 : IntsAt w (.slice a2 k2 c2) ys) (h3 : IntsAt w (.slice a3 k3 c3) zs) (g1 : decide (0 < cmpF x xs y ys) = false) (g2 : decide (0 < cmpF y ys z zs) = true) :
    Calls Try.prog 6 #[.agg #[.slice a1 k1 c1, .int .u64 (x : Int)], .agg #[.slice a2 k2 c2, .int .u64 (y : Int)], .agg #[.slice a3 k3 c3, .int .u64 (z : Int)]] w fun e w' => e = .returned (.bool true) ∧ Below w.heap.size w w' := by
  have HP0 : Hid (PT w w.heap.size (.slice a1 k1 c1) (.slice a2 k2 c2) (.slice a3 k3 c3) x y z xs ys zs (((w.alloc (.cells #[.slice a1 k1 c1, .int .u64 (x : Int)] 40)).alloc (.cells #[.slice a2 k2 c2, .int .u64 (y : Int)] 40)).alloc (.cells #[.slice a3 k3 c3, .int .u64 (z : Int)] 40))) := Lib.hid (PT.boxes h1 h2 h3)
  have HC1 := Lib.hid (fun W (h : IntsAt W (.slice a1 k1 c1) xs ∧ IntsAt W (.slice a2 k2 c2) ys ∧ IntsAt W (.slice a3 k3 c3) zs ∧ Below w.heap.size w W) => S.cmp x y (.slice a1 k1 c1) (.slice a2 k2 c2) xs ys W (by omega) (by omega) h.1 h.2.1)
  have HC2 := Lib.hid (fun W (h : IntsAt W (.slice a1 k1 c1) xs ∧ IntsAt W (.slice a2 k2 c2) ys ∧ IntsAt W (.slice a3 k3 c3) zs ∧ Below w.heap.size w W) => S.cmp y x (.slice a2 k2 c2) (.slice a1 k1 c1) ys xs W (by omega) (by omega) h.2.1 h.1)
  have HC3 := Lib.hid (fun W (h : IntsAt W (.slice a1 k1 c1) xs ∧ IntsAt W (.slice a2 k2 c2) ys ∧ IntsAt W (.slice a3 k3 c3) zs ∧ Below w.heap.size w W) => S.cmp y z (.slice a2 k2 c2) (.slice a3 k3 c3) ys zs W (by omega) (by omega) h.2.1 h.2.2.1)
  have HC4 := Lib.hid (fun W (h : IntsAt W (.slice a1 k1 c1) xs ∧ IntsAt W (.slice a2 k2 c2) ys ∧ IntsAt W (.slice a3 k3 c3) zs ∧ Below w.heap.size w W) => S.cmp x z (.slice a1 k1 c1) (.slice a3 k3 c3) xs zs W (by omega) (by omega) h.1 h.2.2.1)
  have HAL := Lib.hid (fun W (h : IntsAt W (.slice a1 k1 c1) xs ∧ IntsAt W (.slice a2 k2 c2) ys ∧ IntsAt W (.slice a3 k3 c3) zs ∧ Below w.heap.size w W) => palive_any S W)
  have hneg := wrap_neg1 (cmpF_neg x y xs ys) (cmpF_rng y x ys xs)
  generalize cmpF x xs y ys = q1 at *
  generalize cmpF y ys x xs = q2 at *
  generalize cmpF y ys z zs = q3 at *
  generalize cmpF x xs z zs = q4 at *
  have d1 : decide ((100 : Int) < (k1 : Int)) = false := decide_eq_false (by omega)
  have d2 : decide ((100 : Int) < (k2 : Int)) = false := decide_eq_false (by omega)
  have d3 : decide ((100 : Int) < (k3 : Int)) = false := decide_eq_false (by omega)
  have d1' : decide (100 < k1) = false := decide_eq_false (by omega)
  have d2' : decide (100 < k2) = false := decide_eq_false (by omega)
  have d3' : decide (100 < k3) = false := decide_eq_false (by omega)
  clear m1 m2 m3 l1 l2 l3 h1 h2 h3 S
  obtain ⟨p0, p1, p2, p3, p4, p5, _⟩ := HP0.out
  go_enter Try.func6, Try.ntmps6
  go_wp2
  clear p0 p1 p2 p3 p4 p5
  refine wp_region_held_drew (S := fun w' => PT w w.heap.size (.slice a1 k1 c1) (.slice a2 k2 c2) (.slice a3 k3 c3) x y z xs ys zs w') (by kernel_rfl) ?_ (fun hHeld => ?_)
  · exact HP0.out.on (Below.refl _ _).drew
  refine wpAnyH_take (i := 0) (v := ?_) rfl (by kernel_rfl) (by kernel_rfl) (by kernel_rfl) (fun _ _ _ h => h) (Or.inl ⟨by rfl, ?_⟩) (by assumption) ?_
  rotate_left 1
  · intro w hSw
    obtain ⟨s0, s1, s2, s3, s4, s5, s6⟩ := hSw
    go_simp
    try with_reducible rfl
  try simp only [Act.put, List.getElem_toArray, List.getElem_cons_succ, List.getElem_cons_zero, List.setIfInBounds_toArray, List.set_cons_zero, List.set_cons_succ]
  refine wpAnyH_take (i := 1) (v := ?_) rfl (by kernel_rfl) (by kernel_rfl) (by kernel_rfl) (fun _ _ _ h => h) (Or.inl ⟨by rfl, ?_⟩) (by assumption) ?_
  rotate_left 1
  · intro w hSw
    obtain ⟨s0, s1, s2, s3, s4, s5, s6⟩ := hSw
    go_simp
    try with_reducible rfl
  try simp only [Act.put, List.getElem_toArray, List.getElem_cons_succ, List.getElem_cons_zero, List.setIfInBounds_toArray, List.set_cons_zero, List.set_cons_succ]
  refine wpAnyH_take (i := 3) (v := ?_) rfl (by kernel_rfl) (by kernel_rfl) (by kernel_rfl) (fun _ _ _ h => h) (Or.inl ⟨by rfl, ?_⟩) (by assumption) ?_
  rotate_left 1
  · intro w hSw
    obtain ⟨s0, s1, s2, s3, s4, s5, s6⟩ := hSw
    go_simp
    try with_reducible rfl
  try simp only [Act.put, List.getElem_toArray, List.getElem_cons_succ, List.getElem_cons_zero, List.setIfInBounds_toArray, List.set_cons_zero, List.set_cons_succ]
  refine wpAnyH_take (i := 4) (v := ?_) rfl (by kernel_rfl) (by kernel_rfl) (by kernel_rfl) (fun _ _ _ h => h) (Or.inl ⟨by rfl, ?_⟩) (by assumption) ?_
  rotate_left 1
  · intro w hSw
    obtain ⟨s0, s1, s2, s3, s4, s5, s6⟩ := hSw
    go_simp
    try with_reducible rfl
  try simp only [Act.put, List.getElem_toArray, List.getElem_cons_succ, List.getElem_cons_zero, List.setIfInBounds_toArray, List.set_cons_zero, List.set_cons_succ]
  refine wpAnyH_ready (rs := [2]) (by kernel_rfl) (by simp) ?_
  refine AllReadyH.cons rfl (fun K hK => ?_) AllReadyH.nil
  go_simp
  refine (HC1.out _ hHeld.2.2.2.2.2.2.out).mono ?_
  rintro e w9 ⟨rfl, hB⟩
  refine hK.out _ _ (PT.on hB hHeld) (fun hHeld => ?_)
  clear hK K
  try simp only [Act.put, List.getElem_toArray, List.getElem_cons_succ, List.getElem_cons_zero, List.setIfInBounds_toArray, List.set_cons_zero, List.set_cons_succ]
  refine wpAnyH_ready (rs := [5]) (by kernel_rfl) (by simp) ?_
  refine AllReadyH.cons rfl (fun K hK => ?_) AllReadyH.nil
  go_simp
  refine (HC2.out _ hHeld.2.2.2.2.2.2.out).mono ?_
  rintro e w9 ⟨rfl, hB⟩
  refine hK.out _ _ (PT.on hB hHeld) (fun hHeld => ?_)
  clear hK K
  try simp only [Act.put, List.getElem_toArray, List.getElem_cons_succ, List.getElem_cons_zero, List.setIfInBounds_toArray, List.set_cons_zero, List.set_cons_succ]
  refine wpAnyH_take (i := 6) (v := ?_) rfl (by kernel_rfl) (by kernel_rfl) (by kernel_rfl) (fun _ _ _ h => h) (Or.inl ⟨by rfl, ?_⟩) (by assumption) ?_
  rotate_left 1
  · intro w hSw
    obtain ⟨s0, s1, s2, s3, s4, s5, s6⟩ := hSw
    go_simp
    try with_reducible rfl
  try simp only [Act.put, List.getElem_toArray, List.getElem_cons_succ, List.getElem_cons_zero, List.setIfInBounds_toArray, List.set_cons_zero, List.set_cons_succ]
  refine wpAnyH_take (i := 7) (v := ?_) rfl (by kernel_rfl) (by kernel_rfl) (by kernel_rfl) (fun _ _ _ h => h) (Or.inl ⟨by rfl, ?_⟩) (by assumption) ?_
  rotate_left 1
  · intro w hSw
    obtain ⟨s0, s1, s2, s3, s4, s5, s6⟩ := hSw
    go_simp
    try with_reducible rfl
  try simp only [Act.put, List.getElem_toArray, List.getElem_cons_succ, List.getElem_cons_zero, List.setIfInBounds_toArray, List.set_cons_zero, List.set_cons_succ]
  refine wpAnyH_take (i := 8) (v := ?_) rfl (by kernel_rfl) (by kernel_rfl) (by kernel_rfl) (fun _ _ _ h => h) (Or.inl ⟨by rfl, ?_⟩) (by assumption) ?_
  rotate_left 1
  · intro w hSw
    obtain ⟨s0, s1, s2, s3, s4, s5, s6⟩ := hSw
    go_simp
    try with_reducible rfl
  try simp only [Act.put, List.getElem_toArray, List.getElem_cons_succ, List.getElem_cons_zero, List.setIfInBounds_toArray, List.set_cons_zero, List.set_cons_succ]
  refine wpAnyH_take (i := 9) (v := ?_) rfl (by kernel_rfl) (by kernel_rfl) (by kernel_rfl) (fun _ _ _ h => h) (Or.inl ⟨by rfl, ?_⟩) (by assumption) ?_
  rotate_left 1
  · intro w hSw
    obtain ⟨s0, s1, s2, s3, s4, s5, s6⟩ := hSw
    go_simp
    try with_reducible rfl
  try simp only [Act.put, List.getElem_toArray, List.getElem_cons_succ, List.getElem_cons_zero, List.setIfInBounds_toArray, List.set_cons_zero, List.set_cons_succ]
  refine wpAnyH_take (i := 10) (v := ?_) rfl (by kernel_rfl) (by kernel_rfl) (by kernel_rfl) (fun _ _ _ h => h) (Or.inl ⟨by rfl, ?_⟩) (by assumption) ?_
  rotate_left 1
  · intro w hSw
    obtain ⟨s0, s1, s2, s3, s4, s5, s6⟩ := hSw
    go_simp
    try with_reducible rfl
  try simp only [Act.put, List.getElem_toArray, List.getElem_cons_succ, List.getElem_cons_zero, List.setIfInBounds_toArray, List.set_cons_zero, List.set_cons_succ]
  refine wpAnyH_ready (rs := [11]) (by kernel_rfl) (by simp) ?_
  refine AllReadyH.cons rfl (fun K hK => ?_) AllReadyH.nil
  go_simp
  refine (HC1.out _ hHeld.2.2.2.2.2.2.out).mono ?_
  rintro e w9 ⟨rfl, hB⟩
  refine hK.out _ _ (PT.on hB hHeld) (fun hHeld => ?_)
  clear hK K
  try simp only [Act.put, List.getElem_toArray, List.getElem_cons_succ, List.getElem_cons_zero, List.setIfInBounds_toArray, List.set_cons_zero, List.set_cons_succ]
  refine wpAnyH_take (i := 12) (v := ?_) rfl (by kernel_rfl) (by kernel_rfl) (by kernel_rfl) (fun _ _ _ h => h) (Or.inl ⟨by rfl, ?_⟩) (by assumption) ?_
  rotate_left 1
  · intro w hSw
    obtain ⟨s0, s1, s2, s3, s4, s5, s6⟩ := hSw
    go_simp
    try with_reducible rfl
  try simp only [Act.put, List.getElem_toArray, List.getElem_cons_succ, List.getElem_cons_zero, List.setIfInBounds_toArray, List.set_cons_zero, List.set_cons_succ]
  refine wpAnyH_take (i := 13) (v := ?_) rfl (by kernel_rfl) (by kernel_rfl) (by kernel_rfl) (fun _ _ _ h => h) (Or.inl ⟨by rfl, ?_⟩) (by assumption) ?_
  rotate_left 1
  · intro w hSw
    obtain ⟨s0, s1, s2, s3, s4, s5, s6⟩ := hSw
    go_simp
    try with_reducible rfl
  try simp only [Act.put, List.getElem_toArray, List.getElem_cons_succ, List.getElem_cons_zero, List.setIfInBounds_toArray, List.set_cons_zero, List.set_cons_succ]
  refine wpAnyH_take (i := 14) (v := ?_) rfl (by kernel_rfl) (by kernel_rfl) (by kernel_rfl) (fun _ _ _ h => h) (Or.inl ⟨by rfl, ?_⟩) (by assumption) ?_
  rotate_left 1
  · intro w hSw
    obtain ⟨s0, s1, s2, s3, s4, s5, s6⟩ := hSw
    go_simp
    try with_reducible rfl
  try simp only [Act.put, List.getElem_toArray, List.getElem_cons_succ, List.getElem_cons_zero, List.setIfInBounds_toArray, List.set_cons_zero, List.set_cons_succ]
  refine wpAnyH_take (i := 15) (v := ?_) rfl (by kernel_rfl) (by kernel_rfl) (by kernel_rfl) (fun _ _ _ h => h) (Or.inl ⟨by rfl, ?_⟩) (by assumption) ?_
  rotate_left 1
  · intro w hSw
    obtain ⟨s0, s1, s2, s3, s4, s5, s6⟩ := hSw
    go_simp
    try with_reducible rfl
  try simp only [Act.put, List.getElem_toArray, List.getElem_cons_succ, List.getElem_cons_zero, List.setIfInBounds_toArray, List.set_cons_zero, List.set_cons_succ]
  refine wpAnyH_ready (rs := [16]) (by kernel_rfl) (by simp) ?_
  refine AllReadyH.cons rfl (fun K hK => ?_) AllReadyH.nil
  go_simp
  refine (HC3.out _ hHeld.2.2.2.2.2.2.out).mono ?_
  rintro e w9 ⟨rfl, hB⟩
  refine hK.out _ _ (PT.on hB hHeld) (fun hHeld => ?_)
  clear hK K
  try simp only [Act.put, List.getElem_toArray, List.getElem_cons_succ, List.getElem_cons_zero, List.setIfInBounds_toArray, List.set_cons_zero, List.set_cons_succ]
  refine wpAnyH_take (i := 17) (v := ?_) rfl (by kernel_rfl) (by kernel_rfl) (by kernel_rfl) (fun _ _ _ h => h) (Or.inl ⟨by rfl, ?_⟩) (by assumption) ?_
  rotate_left 1
  · intro w hSw
    obtain ⟨s0, s1, s2, s3, s4, s5, s6⟩ := hSw
    go_simp
    try with_reducible rfl
  try simp only [Act.put, List.getElem_toArray, List.getElem_cons_succ, List.getElem_cons_zero, List.setIfInBounds_toArray, List.set_cons_zero, List.set_cons_succ]
  refine wpAnyH_take (i := 18) (v := ?_) rfl (by kernel_rfl) (by kernel_rfl) (by kernel_rfl) (fun _ _ _ h => h) (Or.inl ⟨by rfl, ?_⟩) (by assumption) ?_
  rotate_left 1
  · intro w hSw
    obtain ⟨s0, s1, s2, s3, s4, s5, s6⟩ := hSw
    go_simp
    try with_reducible rfl
  try simp only [Act.put, List.getElem_toArray, List.getElem_cons_succ, List.getElem_cons_zero, List.setIfInBounds_toArray, List.set_cons_zero, List.set_cons_succ]
  refine wpAnyH_take (i := 19) (v := ?_) rfl (by kernel_rfl) (by kernel_rfl) (by kernel_rfl) (fun _ _ _ h => h) (Or.inl ⟨by rfl, ?_⟩) (by assumption) ?_
  rotate_left 1
  · intro w hSw
    obtain ⟨s0, s1, s2, s3, s4, s5, s6⟩ := hSw
    go_simp
    try with_reducible rfl
  try simp only [Act.put, List.getElem_toArray, List.getElem_cons_succ, List.getElem_cons_zero, List.setIfInBounds_toArray, List.set_cons_zero, List.set_cons_succ]
  refine wpAnyH_take (i := 20) (v := undef) rfl (by kernel_rfl) (by kernel_rfl) (by kernel_rfl) (fun _ _ _ h => h) (Or.inr ⟨by kernel_rfl, rfl⟩) (by assumption) ?_
  try simp only [Act.put, List.getElem_toArray, List.getElem_cons_succ, List.getElem_cons_zero, List.setIfInBounds_toArray, List.set_cons_zero, List.set_cons_succ]
  refine wpAnyH_take (i := 21) (v := undef) rfl (by kernel_rfl) (by kernel_rfl) (by kernel_rfl) (fun _ _ _ h => h) (Or.inr ⟨by kernel_rfl, rfl⟩) (by assumption) ?_
  try simp only [Act.put, List.getElem_toArray, List.getElem_cons_succ, List.getElem_cons_zero, List.setIfInBounds_toArray, List.set_cons_zero, List.set_cons_succ]
  refine wpAnyH_take (i := 22) (v := undef) rfl (by kernel_rfl) (by kernel_rfl) (by kernel_rfl) (fun _ _ _ h => h) (Or.inr ⟨by kernel_rfl, rfl⟩) (by assumption) ?_
  try simp only [Act.put, List.getElem_toArray, List.getElem_cons_succ, List.getElem_cons_zero, List.setIfInBounds_toArray, List.set_cons_zero, List.set_cons_succ]
  refine wpAnyH_take (i := 23) (v := undef) rfl (by kernel_rfl) (by kernel_rfl) (by kernel_rfl) (fun _ _ _ h => h) (Or.inr ⟨by kernel_rfl, rfl⟩) (by assumption) ?_
  try simp only [Act.put, List.getElem_toArray, List.getElem_cons_succ, List.getElem_cons_zero, List.setIfInBounds_toArray, List.set_cons_zero, List.set_cons_succ]
  refine wpAnyH_take (i := 24) (v := ?_) rfl (by kernel_rfl) (by kernel_rfl) (by kernel_rfl) (fun _ _ _ h => h) (Or.inl ⟨by rfl, ?_⟩) (by assumption) ?_
  rotate_left 1
  · intro w hSw
    obtain ⟨s0, s1, s2, s3, s4, s5, s6⟩ := hSw
    go_simp
    try with_reducible rfl
  try simp only [Act.put, List.getElem_toArray, List.getElem_cons_succ, List.getElem_cons_zero, List.setIfInBounds_toArray, List.set_cons_zero, List.set_cons_succ]
  refine wpAnyH_take (i := 25) (v := ?_) rfl (by kernel_rfl) (by kernel_rfl) (by kernel_rfl) (fun _ _ _ h => h) (Or.inl ⟨by rfl, ?_⟩) (by assumption) ?_
  rotate_left 1
  · intro w hSw
    obtain ⟨s0, s1, s2, s3, s4, s5, s6⟩ := hSw
    go_simp
    try with_reducible rfl
  try simp only [Act.put, List.getElem_toArray, List.getElem_cons_succ, List.getElem_cons_zero, List.setIfInBounds_toArray, List.set_cons_zero, List.set_cons_succ]
  refine wpAnyH_take (i := 26) (v := ?_) rfl (by kernel_rfl) (by kernel_rfl) (by kernel_rfl) (fun _ _ _ h => h) (Or.inl ⟨by rfl, ?_⟩) (by assumption) ?_
  rotate_left 1
  · intro w hSw
    obtain ⟨s0, s1, s2, s3, s4, s5, s6⟩ := hSw
    go_simp
    try with_reducible rfl
  try simp only [Act.put, List.getElem_toArray, List.getElem_cons_succ, List.getElem_cons_zero, List.setIfInBounds_toArray, List.set_cons_zero, List.set_cons_succ]
  refine wpAnyH_ready (rs := [27]) (by kernel_rfl) (by simp) ?_
  refine AllReadyH.cons rfl (fun K hK => ?_) AllReadyH.nil
  go_simp
  refine (HAL.out _ hHeld.2.2.2.2.2.2.out).mono ?_
  rintro e w9 ⟨rfl, hB⟩
  refine hK.out _ _ (PT.on hB hHeld) (fun hHeld => ?_)
  clear hK K
  try simp only [Act.put, List.getElem_toArray, List.getElem_cons_succ, List.getElem_cons_zero, List.setIfInBounds_toArray, List.set_cons_zero, List.set_cons_succ]
  refine wpAnyH_take (i := 28) (v := ?_) rfl (by kernel_rfl) (by kernel_rfl) (by kernel_rfl) (fun _ _ _ h => h) (Or.inl ⟨by rfl, ?_⟩) (by assumption) ?_
  rotate_left 1
  · intro w hSw
    obtain ⟨s0, s1, s2, s3, s4, s5, s6⟩ := hSw
    go_simp
    try with_reducible rfl
  try simp only [Act.put, List.getElem_toArray, List.getElem_cons_succ, List.getElem_cons_zero, List.setIfInBounds_toArray, List.set_cons_zero, List.set_cons_succ]
  refine wpAnyH_take (i := 29) (v := ?_) rfl (by kernel_rfl) (by kernel_rfl) (by kernel_rfl) (fun _ _ _ h => h) (Or.inl ⟨by rfl, ?_⟩) (by assumption) ?_
  rotate_left 1
  · intro w hSw
    obtain ⟨s0, s1, s2, s3, s4, s5, s6⟩ := hSw
    go_simp
    try with_reducible rfl
  try simp only [Act.put, List.getElem_toArray, List.getElem_cons_succ, List.getElem_cons_zero, List.setIfInBounds_toArray, List.set_cons_zero, List.set_cons_succ]
  refine wpAnyH_done (by kernel_rfl) ?_ _
  have HZ := Lib.hid hHeld.2.2.2.2.2.2.out.2.2.2
  clear hHeld
  go_wp2
  go_ret
  exact ⟨rfl, HZ.out⟩
set_option maxHeartbeats 4000000 in
theorem turns_c (S : PathSpec) (x y z : Nat) (a1 a2 a3 : Option Addr) (k1 k2 k3 c1 c2 c3 : Nat) (xs ys zs : List Int) (m1 : xs.length = k1) (m2 : ys.length = k2) (m3 : zs.length = k3) (l1 : k1 ≤ 100) (l2 : k2 ≤ 100) (l3 : k3 ≤ 100) (w : World) (h1 : IntsAt w (.slice a1 k1 c1) xs) (h2 : IntsAt w (.slice a2 k2 c2) ys) (h3 : IntsAt w (.slice a3 k3 c3) zs) (g1 : decide (0 < cmpF x xs y ys) = false) (g2 : decide (0 < cmpF y ys z zs) = false) (g3 : decide (cmpF x xs z zs ≤ 0) = true) :
    Calls Try.prog 6 #[.agg #[.slice a1 k1 c1, .int .u64 (x : Int)], .agg #[.slice a2 k2 c2, .int .u64 (y : Int)], .agg #[.slice a3 k3 c3, .int .u64 (z : Int)]] w fun e w' => e = .returned (.bool true) ∧ Below w.heap.size w w' := by
  have HP0 : Hid (PT w w.heap.size (.slice a1 k1 c1) (.slice a2 k2 c2) (.slice a3 k3 c3) x y z xs ys zs (((w.alloc (.cells #[.slice a1 k1 c1, .int .u64 (x : Int)] 40)).alloc (.cells #[.slice a2 k2 c2, .int .u64 (y : Int)] 40)).alloc (.cells #[.slice a3 k3 c3, .int .u64 (z : Int)] 40))) := Lib.hid (PT.boxes h1 h2 h3)
  have HC1 := Lib.hid (fun W (h : IntsAt W (.slice a1 k1 c1) xs ∧ IntsAt W (.slice a2 k2 c2) ys ∧ IntsAt W (.slice a3 k3 c3) zs ∧ Below w.heap.size w W) => S.cmp x y (.slice a1 k1 c1) (.slice a2 k2 c2) xs ys W (by omega) (by omega) h.1 h.2.1)
  have HC2 := Lib.hid (fun W (h : IntsAt W (.slice a1 k1 c1) xs ∧ IntsAt W (.slice a2 k2 c2) ys ∧ IntsAt W (.slice a3 k3 c3) zs ∧ Below w.heap.size w W) => S.cmp y x (.slice a2 k2 c2) (.slice a1 k1 c1) ys xs W (by omega) (by omega) h.2.1 h.1)
  have HC3 := Lib.hid (fun W (h : IntsAt W (.slice a1 k1 c1) xs ∧ IntsAt W (.slice a2 k2 c2) ys ∧ IntsAt W (.slice a3 k3 c3) zs ∧ Below w.heap.size w W) => S.cmp y z (.slice a2 k2 c2) (.slice a3 k3 c3) ys zs W (by omega) (by omega) h.2.1 h.2.2.1)
  have HC4 := Lib.hid (fun W (h : IntsAt W (.slice a1 k1 c1) xs ∧ IntsAt W (.slice a2 k2 c2) ys ∧ IntsAt W (.slice a3 k3 c3) zs ∧ Below w.heap.size w W) => S.cmp x z (.slice a1 k1 c1) (.slice a3 k3 c3) xs zs W (by omega) (by omega) h.1 h.2.2.1)
  have HAL := Lib.hid (fun W (h : IntsAt W (.slice a1 k1 c1) xs ∧ IntsAt W (.slice a2 k2 c2) ys ∧ IntsAt W (.slice a3 k3 c3) zs ∧ Below w.heap.size w W) => palive_any S W)
  have hneg := wrap_neg1 (cmpF_neg x y xs ys) (cmpF_rng y x ys xs)
  generalize cmpF x xs y ys = q1 at *
  generalize cmpF y ys x xs = q2 at *
  generalize cmpF y ys z zs = q3 at *
  generalize cmpF x xs z zs = q4 at *
  have d1 : decide ((100 : Int) < (k1 : Int)) = false := decide_eq_false (by omega)
  have d2 : decide ((100 : Int) < (k2 : Int)) = false := decide_eq_false (by omega)
  have d3 : decide ((100 : Int) < (k3 : Int)) = false := decide_eq_false (by omega)
  have d1' : decide (100 < k1) = false := decide_eq_false (by omega)
  have d2' : decide (100 < k2) = false := decide_eq_false (by omega)
  have d3' : decide (100 < k3) = false := decide_eq_false (by omega)
  clear m1 m2 m3 l1 l2 l3 h1 h2 h3 S
  obtain ⟨p0, p1, p2, p3, p4, p5, _⟩ := HP0.out
  go_enter Try.func6, Try.ntmps6
  go_wp2
  clear p0 p1 p2 p3 p4 p5
  refine wp_region_held_drew (S := fun w' => PT w w.heap.size (.slice a1 k1 c1) (.slice a2 k2 c2) (.slice a3 k3 c3) x y z xs ys zs w') (by kernel_rfl) ?_ (fun hHeld => ?_)
  · exact HP0.out.on (Below.refl _ _).drew
  refine wpAnyH_take (i := 0) (v := ?_) rfl (by kernel_rfl) (by kernel_rfl) (by kernel_rfl) (fun _ _ _ h => h) (Or.inl ⟨by rfl, ?_⟩) (by assumption) ?_
  rotate_left 1
  · intro w hSw
    obtain ⟨s0, s1, s2, s3, s4, s5, s6⟩ := hSw
    go_simp
    try with_reducible rfl
  try simp only [Act.put, List.getElem_toArray, List.getElem_cons_succ, List.getElem_cons_zero, List.setIfInBounds_toArray, List.set_cons_zero, List.set_cons_succ]
  refine wpAnyH_take (i := 1) (v := ?_) rfl (by kernel_rfl) (by kernel_rfl) (by kernel_rfl) (fun _ _ _ h => h) (Or.inl ⟨by rfl, ?_⟩) (by assumption) ?_
  rotate_left 1
  · intro w hSw
    obtain ⟨s0, s1, s2, s3, s4, s5, s6⟩ := hSw
    go_simp
    try with_reducible rfl
  try simp only [Act.put, List.getElem_toArray, List.getElem_cons_succ, List.getElem_cons_zero, List.setIfInBounds_toArray, List.set_cons_zero, List.set_cons_succ]
  refine wpAnyH_take (i := 3) (v := ?_) rfl (by kernel_rfl) (by kernel_rfl) (by kernel_rfl) (fun _ _ _ h => h) (Or.inl ⟨by rfl, ?_⟩) (by assumption) ?_
  rotate_left 1
  · intro w hSw
    obtain ⟨s0, s1, s2, s3, s4, s5, s6⟩ := hSw
    go_simp
    try with_reducible rfl
  try simp only [Act.put, List.getElem_toArray, List.getElem_cons_succ, List.getElem_cons_zero, List.setIfInBounds_toArray, List.set_cons_zero, List.set_cons_succ]
  refine wpAnyH_take (i := 4) (v := ?_) rfl (by kernel_rfl) (by kernel_rfl) (by kernel_rfl) (fun _ _ _ h => h) (Or.inl ⟨by rfl, ?_⟩) (by assumption) ?_
  rotate_left 1
  · intro w hSw
    obtain ⟨s0, s1, s2, s3, s4, s5, s6⟩ := hSw
    go_simp
    try with_reducible rfl
  try simp only [Act.put, List.getElem_toArray, List.getElem_cons_succ, List.getElem_cons_zero, List.setIfInBounds_toArray, List.set_cons_zero, List.set_cons_succ]
  refine wpAnyH_ready (rs := [2]) (by kernel_rfl) (by simp) ?_
  refine AllReadyH.cons rfl (fun K hK => ?_) AllReadyH.nil
  go_simp
  refine (HC1.out _ hHeld.2.2.2.2.2.2.out).mono ?_
  rintro e w9 ⟨rfl, hB⟩
  refine hK.out _ _ (PT.on hB hHeld) (fun hHeld => ?_)
  clear hK K
  try simp only [Act.put, List.getElem_toArray, List.getElem_cons_succ, List.getElem_cons_zero, List.setIfInBounds_toArray, List.set_cons_zero, List.set_cons_succ]
  refine wpAnyH_ready (rs := [5]) (by kernel_rfl) (by simp) ?_
  refine AllReadyH.cons rfl (fun K hK => ?_) AllReadyH.nil
  go_simp
  refine (HC2.out _ hHeld.2.2.2.2.2.2.out).mono ?_
  rintro e w9 ⟨rfl, hB⟩
  refine hK.out _ _ (PT.on hB hHeld) (fun hHeld => ?_)
  clear hK K
  try simp only [Act.put, List.getElem_toArray, List.getElem_cons_succ, List.getElem_cons_zero, List.setIfInBounds_toArray, List.set_cons_zero, List.set_cons_succ]
  refine wpAnyH_take (i := 6) (v := ?_) rfl (by kernel_rfl) (by kernel_rfl) (by kernel_rfl) (fun _ _ _ h => h) (Or.inl ⟨by rfl, ?_⟩) (by assumption) ?_
  rotate_left 1
  · intro w hSw
    obtain ⟨s0, s1, s2, s3, s4, s5, s6⟩ := hSw
    go_simp
    try with_reducible rfl
  try simp only [Act.put, List.getElem_toArray, List.getElem_cons_succ, List.getElem_cons_zero, List.setIfInBounds_toArray, List.set_cons_zero, List.set_cons_succ]
  refine wpAnyH_take (i := 7) (v := ?_) rfl (by kernel_rfl) (by kernel_rfl) (by kernel_rfl) (fun _ _ _ h => h) (Or.inl ⟨by rfl, ?_⟩) (by assumption) ?_
  rotate_left 1
  · intro w hSw
    obtain ⟨s0, s1, s2, s3, s4, s5, s6⟩ := hSw
    go_simp
    try with_reducible rfl
  try simp only [Act.put, List.getElem_toArray, List.getElem_cons_succ, List.getElem_cons_zero, List.setIfInBounds_toArray, List.set_cons_zero, List.set_cons_succ]
  refine wpAnyH_take (i := 8) (v := ?_) rfl (by kernel_rfl) (by kernel_rfl) (by kernel_rfl) (fun _ _ _ h => h) (Or.inl ⟨by rfl, ?_⟩) (by assumption) ?_
  rotate_left 1
  · intro w hSw
    obtain ⟨s0, s1, s2, s3, s4, s5, s6⟩ := hSw
    go_simp
    try with_reducible rfl
  try simp only [Act.put, List.getElem_toArray, List.getElem_cons_succ, List.getElem_cons_zero, List.setIfInBounds_toArray, List.set_cons_zero, List.set_cons_succ]
  refine wpAnyH_take (i := 9) (v := ?_) rfl (by kernel_rfl) (by kernel_rfl) (by kernel_rfl) (fun _ _ _ h => h) (Or.inl ⟨by rfl, ?_⟩) (by assumption) ?_
  rotate_left 1
  · intro w hSw
    obtain ⟨s0, s1, s2, s3, s4, s5, s6⟩ := hSw
    go_simp
    try with_reducible rfl
  try simp only [Act.put, List.getElem_toArray, List.getElem_cons_succ, List.getElem_cons_zero, List.setIfInBounds_toArray, List.set_cons_zero, List.set_cons_succ]
  refine wpAnyH_take (i := 10) (v := ?_) rfl (by kernel_rfl) (by kernel_rfl) (by kernel_rfl) (fun _ _ _ h => h) (Or.inl ⟨by rfl, ?_⟩) (by assumption) ?_
  rotate_left 1
  · intro w hSw
    obtain ⟨s0, s1, s2, s3, s4, s5, s6⟩ := hSw
    go_simp
    try with_reducible rfl
  try simp only [Act.put, List.getElem_toArray, List.getElem_cons_succ, List.getElem_cons_zero, List.setIfInBounds_toArray, List.set_cons_zero, List.set_cons_succ]
  refine wpAnyH_ready (rs := [11]) (by kernel_rfl) (by simp) ?_
  refine AllReadyH.cons rfl (fun K hK => ?_) AllReadyH.nil
  go_simp
  refine (HC1.out _ hHeld.2.2.2.2.2.2.out).mono ?_
  rintro e w9 ⟨rfl, hB⟩
  refine hK.out _ _ (PT.on hB hHeld) (fun hHeld => ?_)
  clear hK K
  try simp only [Act.put, List.getElem_toArray, List.getElem_cons_succ, List.getElem_cons_zero, List.setIfInBounds_toArray, List.set_cons_zero, List.set_cons_succ]
  refine wpAnyH_take (i := 12) (v := ?_) rfl (by kernel_rfl) (by kernel_rfl) (by kernel_rfl) (fun _ _ _ h => h) (Or.inl ⟨by rfl, ?_⟩) (by assumption) ?_
  rotate_left 1
  · intro w hSw
    obtain ⟨s0, s1, s2, s3, s4, s5, s6⟩ := hSw
    go_simp
    try with_reducible rfl
  try simp only [Act.put, List.getElem_toArray, List.getElem_cons_succ, List.getElem_cons_zero, List.setIfInBounds_toArray, List.set_cons_zero, List.set_cons_succ]
  refine wpAnyH_take (i := 13) (v := ?_) rfl (by kernel_rfl) (by kernel_rfl) (by kernel_rfl) (fun _ _ _ h => h) (Or.inl ⟨by rfl, ?_⟩) (by assumption) ?_
  rotate_left 1
  · intro w hSw
    obtain ⟨s0, s1, s2, s3, s4, s5, s6⟩ := hSw
    go_simp
    try with_reducible rfl
  try simp only [Act.put, List.getElem_toArray, List.getElem_cons_succ, List.getElem_cons_zero, List.setIfInBounds_toArray, List.set_cons_zero, List.set_cons_succ]
  refine wpAnyH_take (i := 14) (v := ?_) rfl (by kernel_rfl) (by kernel_rfl) (by kernel_rfl) (fun _ _ _ h => h) (Or.inl ⟨by rfl, ?_⟩) (by assumption) ?_
  rotate_left 1
  · intro w hSw
    obtain ⟨s0, s1, s2, s3, s4, s5, s6⟩ := hSw
    go_simp
    try with_reducible rfl
  try simp only [Act.put, List.getElem_toArray, List.getElem_cons_succ, List.getElem_cons_zero, List.setIfInBounds_toArray, List.set_cons_zero, List.set_cons_succ]
  refine wpAnyH_take (i := 15) (v := ?_) rfl (by kernel_rfl) (by kernel_rfl) (by kernel_rfl) (fun _ _ _ h => h) (Or.inl ⟨by rfl, ?_⟩) (by assumption) ?_
  rotate_left 1
  · intro w hSw
    obtain ⟨s0, s1, s2, s3, s4, s5, s6⟩ := hSw
    go_simp
    try with_reducible rfl
  try simp only [Act.put, List.getElem_toArray, List.getElem_cons_succ, List.getElem_cons_zero, List.setIfInBounds_toArray, List.set_cons_zero, List.set_cons_succ]
  refine wpAnyH_ready (rs := [16]) (by kernel_rfl) (by simp) ?_
  refine AllReadyH.cons rfl (fun K hK => ?_) AllReadyH.nil
  go_simp
  refine (HC3.out _ hHeld.2.2.2.2.2.2.out).mono ?_
  rintro e w9 ⟨rfl, hB⟩
  refine hK.out _ _ (PT.on hB hHeld) (fun hHeld => ?_)
  clear hK K
  try simp only [Act.put, List.getElem_toArray, List.getElem_cons_succ, List.getElem_cons_zero, List.setIfInBounds_toArray, List.set_cons_zero, List.set_cons_succ]
  refine wpAnyH_take (i := 17) (v := ?_) rfl (by kernel_rfl) (by kernel_rfl) (by kernel_rfl) (fun _ _ _ h => h) (Or.inl ⟨by rfl, ?_⟩) (by assumption) ?_
  rotate_left 1
  · intro w hSw
    obtain ⟨s0, s1, s2, s3, s4, s5, s6⟩ := hSw
    go_simp
    try with_reducible rfl
  try simp only [Act.put, List.getElem_toArray, List.getElem_cons_succ, List.getElem_cons_zero, List.setIfInBounds_toArray, List.set_cons_zero, List.set_cons_succ]
  refine wpAnyH_take (i := 18) (v := ?_) rfl (by kernel_rfl) (by kernel_rfl) (by kernel_rfl) (fun _ _ _ h => h) (Or.inl ⟨by rfl, ?_⟩) (by assumption) ?_
  rotate_left 1
  · intro w hSw
    obtain ⟨s0, s1, s2, s3, s4, s5, s6⟩ := hSw
    go_simp
    try with_reducible rfl
  try simp only [Act.put, List.getElem_toArray, List.getElem_cons_succ, List.getElem_cons_zero, List.setIfInBounds_toArray, List.set_cons_zero, List.set_cons_succ]
  refine wpAnyH_take (i := 19) (v := ?_) rfl (by kernel_rfl) (by kernel_rfl) (by kernel_rfl) (fun _ _ _ h => h) (Or.inl ⟨by rfl, ?_⟩) (by assumption) ?_
  rotate_left 1
  · intro w hSw
    obtain ⟨s0, s1, s2, s3, s4, s5, s6⟩ := hSw
    go_simp
    try with_reducible rfl
  try simp only [Act.put, List.getElem_toArray, List.getElem_cons_succ, List.getElem_cons_zero, List.setIfInBounds_toArray, List.set_cons_zero, List.set_cons_succ]
  refine wpAnyH_take (i := 20) (v := ?_) rfl (by kernel_rfl) (by kernel_rfl) (by kernel_rfl) (fun _ _ _ h => h) (Or.inl ⟨by rfl, ?_⟩) (by assumption) ?_
  rotate_left 1
  · intro w hSw
    obtain ⟨s0, s1, s2, s3, s4, s5, s6⟩ := hSw
    go_simp
    try with_reducible rfl
  try simp only [Act.put, List.getElem_toArray, List.getElem_cons_succ, List.getElem_cons_zero, List.setIfInBounds_toArray, List.set_cons_zero, List.set_cons_succ]
  refine wpAnyH_take (i := 21) (v := ?_) rfl (by kernel_rfl) (by kernel_rfl) (by kernel_rfl) (fun _ _ _ h => h) (Or.inl ⟨by rfl, ?_⟩) (by assumption) ?_
  rotate_left 1
  · intro w hSw
    obtain ⟨s0, s1, s2, s3, s4, s5, s6⟩ := hSw
    go_simp
    try with_reducible rfl
  try simp only [Act.put, List.getElem_toArray, List.getElem_cons_succ, List.getElem_cons_zero, List.setIfInBounds_toArray, List.set_cons_zero, List.set_cons_succ]
  refine wpAnyH_ready (rs := [22]) (by kernel_rfl) (by simp) ?_
  refine AllReadyH.cons rfl (fun K hK => ?_) AllReadyH.nil
  go_simp
  refine (HC4.out _ hHeld.2.2.2.2.2.2.out).mono ?_
  rintro e w9 ⟨rfl, hB⟩
  refine hK.out _ _ (PT.on hB hHeld) (fun hHeld => ?_)
  clear hK K
  try simp only [Act.put, List.getElem_toArray, List.getElem_cons_succ, List.getElem_cons_zero, List.setIfInBounds_toArray, List.set_cons_zero, List.set_cons_succ]
  refine wpAnyH_take (i := 23) (v := ?_) rfl (by kernel_rfl) (by kernel_rfl) (by kernel_rfl) (fun _ _ _ h => h) (Or.inl ⟨by rfl, ?_⟩) (by assumption) ?_
  rotate_left 1
  · intro w hSw
    obtain ⟨s0, s1, s2, s3, s4, s5, s6⟩ := hSw
    go_simp
    try with_reducible rfl
  try simp only [Act.put, List.getElem_toArray, List.getElem_cons_succ, List.getElem_cons_zero, List.setIfInBounds_toArray, List.set_cons_zero, List.set_cons_succ]
  refine wpAnyH_take (i := 24) (v := ?_) rfl (by kernel_rfl) (by kernel_rfl) (by kernel_rfl) (fun _ _ _ h => h) (Or.inl ⟨by rfl, ?_⟩) (by assumption) ?_
  rotate_left 1
  · intro w hSw
    obtain ⟨s0, s1, s2, s3, s4, s5, s6⟩ := hSw
    go_simp
    try with_reducible rfl
  try simp only [Act.put, List.getElem_toArray, List.getElem_cons_succ, List.getElem_cons_zero, List.setIfInBounds_toArray, List.set_cons_zero, List.set_cons_succ]
  refine wpAnyH_take (i := 25) (v := ?_) rfl (by kernel_rfl) (by kernel_rfl) (by kernel_rfl) (fun _ _ _ h => h) (Or.inl ⟨by rfl, ?_⟩) (by assumption) ?_
  rotate_left 1
  · intro w hSw
    obtain ⟨s0, s1, s2, s3, s4, s5, s6⟩ := hSw
    go_simp
    try with_reducible rfl
  try simp only [Act.put, List.getElem_toArray, List.getElem_cons_succ, List.getElem_cons_zero, List.setIfInBounds_toArray, List.set_cons_zero, List.set_cons_succ]
  refine wpAnyH_take (i := 26) (v := ?_) rfl (by kernel_rfl) (by kernel_rfl) (by kernel_rfl) (fun _ _ _ h => h) (Or.inl ⟨by rfl, ?_⟩) (by assumption) ?_
  rotate_left 1
  · intro w hSw
    obtain ⟨s0, s1, s2, s3, s4, s5, s6⟩ := hSw
    go_simp
    try with_reducible rfl
  try simp only [Act.put, List.getElem_toArray, List.getElem_cons_succ, List.getElem_cons_zero, List.setIfInBounds_toArray, List.set_cons_zero, List.set_cons_succ]
  refine wpAnyH_ready (rs := [27]) (by kernel_rfl) (by simp) ?_
  refine AllReadyH.cons rfl (fun K hK => ?_) AllReadyH.nil
  go_simp
  refine (HAL.out _ hHeld.2.2.2.2.2.2.out).mono ?_
  rintro e w9 ⟨rfl, hB⟩
  refine hK.out _ _ (PT.on hB hHeld) (fun hHeld => ?_)
  clear hK K
  try simp only [Act.put, List.getElem_toArray, List.getElem_cons_succ, List.getElem_cons_zero, List.setIfInBounds_toArray, List.set_cons_zero, List.set_cons_succ]
  refine wpAnyH_take (i := 28) (v := ?_) rfl (by kernel_rfl) (by kernel_rfl) (by kernel_rfl) (fun _ _ _ h => h) (Or.inl ⟨by rfl, ?_⟩) (by assumption) ?_
  rotate_left 1
  · intro w hSw
    obtain ⟨s0, s1, s2, s3, s4, s5, s6⟩ := hSw
    go_simp
    try with_reducible rfl
  try simp only [Act.put, List.getElem_toArray, List.getElem_cons_succ, List.getElem_cons_zero, List.setIfInBounds_toArray, List.set_cons_zero, List.set_cons_succ]
  refine wpAnyH_take (i := 29) (v := ?_) rfl (by kernel_rfl) (by kernel_rfl) (by kernel_rfl) (fun _ _ _ h => h) (Or.inl ⟨by rfl, ?_⟩) (by assumption) ?_
  rotate_left 1
  · intro w hSw
    obtain ⟨s0, s1, s2, s3, s4, s5, s6⟩ := hSw
    go_simp
    try with_reducible rfl
  try simp only [Act.put, List.getElem_toArray, List.getElem_cons_succ, List.getElem_cons_zero, List.setIfInBounds_toArray, List.set_cons_zero, List.set_cons_succ]
  refine wpAnyH_done (by kernel_rfl) ?_ _
  have HZ := Lib.hid hHeld.2.2.2.2.2.2.out.2.2.2
  clear hHeld
  go_wp2
  go_ret
  exact ⟨rfl, HZ.out⟩
set_option maxHeartbeats 1000000 in
theorem turns_no1 (S : PathSpec) (x y z : Nat) (a1 a2 a3 : Option Addr) (k1 k2 k3 c1 c2 c3 : Nat) (xs ys zs : List Int) (w : World) (h1 : IntsAt w (.slice a1 k1 c1) xs) (h2 : IntsAt w (.slice a2 k2 c2) ys) (h3 : IntsAt w (.slice a3 k3 c3) zs) (g1 : 100 < k1) :
    Calls Try.prog 6 #[.agg #[.slice a1 k1 c1, .int .u64 (x : Int)], .agg #[.slice a2 k2 c2, .int .u64 (y : Int)], .agg #[.slice a3 k3 c3, .int .u64 (z : Int)]] w fun e w' => e = .returned (.bool true) ∧ Below w.heap.size w w' := by
  obtain ⟨p0, p1, p2, p3, p4, p5, p6⟩ := PT.boxes (x := x) (y := y) (z := z) h1 h2 h3
  have HB := Lib.hid p6.out.2.2.2
  have HAL := Lib.hid (fun W => palive_any S W)
  have d1 : decide ((100 : Int) < (k1 : Int)) = true := decide_eq_true (by omega)
  have e1 : decide (100 < k1) = true := decide_eq_true (by omega)
  clear p6 h1 h2 h3 S
  go_enter Try.func6, Try.ntmps6
  go_wp2_with (go_at_call 8; refine (HAL.out _).mono ?_; rintro e w9 ⟨rfl, hB⟩; have HB := Lib.hid (on_trans HB.out hB); clear hB HAL)
  go_ret
  exact ⟨rfl, HB.out⟩
set_option maxHeartbeats 1000000 in
theorem turns_no2 (S : PathSpec) (x y z : Nat) (a1 a2 a3 : Option Addr) (k1 k2 k3 c1 c2 c3 : Nat) (xs ys zs : List Int) (w : World) (h1 : IntsAt w (.slice a1 k1 c1) xs) (h2 : IntsAt w (.slice a2 k2 c2) ys) (h3 : IntsAt w (.slice a3 k3 c3) zs) (g1 : k1 ≤ 100) (g2 : 100 < k2) :
    Calls Try.prog 6 #[.agg #[.slice a1 k1 c1, .int .u64 (x : Int)], .agg #[.slice a2 k2 c2, .int .u64 (y : Int)], .agg #[.slice a3 k3 c3, .int .u64 (z : Int)]] w fun e w' => e = .returned (.bool true) ∧ Below w.heap.size w w' := by
  obtain ⟨p0, p1, p2, p3, p4, p5, p6⟩ := PT.boxes (x := x) (y := y) (z := z) h1 h2 h3
  have HB := Lib.hid p6.out.2.2.2
  have HAL := Lib.hid (fun W => palive_any S W)
  have d1 : decide ((100 : Int) < (k1 : Int)) = false := decide_eq_false (by omega)
  have e1 : decide (100 < k1) = false := decide_eq_false (by omega)
  have d2 : decide ((100 : Int) < (k2 : Int)) = true := decide_eq_true (by omega)
  have e2 : decide (100 < k2) = true := decide_eq_true (by omega)
  clear p6 h1 h2 h3 S
  go_enter Try.func6, Try.ntmps6
  go_wp2_with (go_at_call 8; refine (HAL.out _).mono ?_; rintro e w9 ⟨rfl, hB⟩; have HB := Lib.hid (on_trans HB.out hB); clear hB HAL)
  go_ret
  exact ⟨rfl, HB.out⟩
set_option maxHeartbeats 1000000 in
theorem turns_no3 (S : PathSpec) (x y z : Nat) (a1 a2 a3 : Option Addr) (k1 k2 k3 c1 c2 c3 : Nat) (xs ys zs : List Int) (w : World) (h1 : IntsAt w (.slice a1 k1 c1) xs) (h2 : IntsAt w (.slice a2 k2 c2) ys) (h3 : IntsAt w (.slice a3 k3 c3) zs) (g1 : k1 ≤ 100) (g2 : k2 ≤ 100) (g3 : 100 < k3) :
    Calls Try.prog 6 #[.agg #[.slice a1 k1 c1, .int .u64 (x : Int)], .agg #[.slice a2 k2 c2, .int .u64 (y : Int)], .agg #[.slice a3 k3 c3, .int .u64 (z : Int)]] w fun e w' => e = .returned (.bool true) ∧ Below w.heap.size w w' := by
  obtain ⟨p0, p1, p2, p3, p4, p5, p6⟩ := PT.boxes (x := x) (y := y) (z := z) h1 h2 h3
  have HB := Lib.hid p6.out.2.2.2
  have HAL := Lib.hid (fun W => palive_any S W)
  have d1 : decide ((100 : Int) < (k1 : Int)) = false := decide_eq_false (by omega)
  have e1 : decide (100 < k1) = false := decide_eq_false (by omega)
  have d2 : decide ((100 : Int) < (k2 : Int)) = false := decide_eq_false (by omega)
  have e2 : decide (100 < k2) = false := decide_eq_false (by omega)
  have d3 : decide ((100 : Int) < (k3 : Int)) = true := decide_eq_true (by omega)
  have e3 : decide (100 < k3) = true := decide_eq_true (by omega)
  clear p6 h1 h2 h3 S
  go_enter Try.func6, Try.ntmps6
  go_wp2_with (go_at_call 8; refine (HAL.out _).mono ?_; rintro e w9 ⟨rfl, hB⟩; have HB := Lib.hid (on_trans HB.out hB); clear hB HAL)
  go_ret
  exact ⟨rfl, HB.out⟩
/-- PathTurns' walk. -/
theorem pathturns_any (S : PathSpec) (x y z : Nat) {u1 u2 u3 : Value} {xs ys zs : List Int} (w : World) (h1 : IntsAt w u1 xs) (h2 : IntsAt w u2 ys) (h3 : IntsAt w u3 zs) :
    Calls Try.prog 6 #[.agg #[u1, .int .u64 (x : Int)], .agg #[u2, .int .u64 (y : Int)], .agg #[u3, .int .u64 (z : Int)]] w fun e w' => e = .returned (.bool true) ∧ Below w.heap.size w w' := by
  have h1' := h1
  have h2' := h2
  have h3' := h3
  obtain ⟨a1, c1, rfl, _, _⟩ := h1
  obtain ⟨a2, c2, rfl, _, _⟩ := h2
  obtain ⟨a3, c3, rfl, _, _⟩ := h3
  by_cases l1 : xs.length ≤ 100
  · by_cases l2 : ys.length ≤ 100
    · by_cases l3 : zs.length ≤ 100
      · by_cases g1 : 0 < cmpF x xs y ys
        · exact turns_a S x y z a1 a2 a3 _ _ _ c1 c2 c3 xs ys zs rfl rfl rfl l1 l2 l3 w h1' h2' h3' (decide_eq_true g1)
        · by_cases g2 : 0 < cmpF y ys z zs
          · exact turns_b S x y z a1 a2 a3 _ _ _ c1 c2 c3 xs ys zs rfl rfl rfl l1 l2 l3 w h1' h2' h3' (decide_eq_false g1) (decide_eq_true g2)
          · exact turns_c S x y z a1 a2 a3 _ _ _ c1 c2 c3 xs ys zs rfl rfl rfl l1 l2 l3 w h1' h2' h3' (decide_eq_false g1) (decide_eq_false g2) (decide_eq_true (cmpF_trans x y z xs ys zs (by omega) (by omega)))
      · exact turns_no3 S x y z a1 a2 a3 _ _ _ c1 c2 c3 xs ys zs w h1' h2' h3' l1 l2 (by omega)
    · exact turns_no2 S x y z a1 a2 a3 _ _ _ c1 c2 c3 xs ys zs w h1' h2' h3' l1 (by omega)
  · exact turns_no1 S x y z a1 a2 a3 _ _ _ c1 c2 c3 xs ys zs w h1' h2' h3' (by omega)
end Go.Proofs.Ytifljelphniipaa
