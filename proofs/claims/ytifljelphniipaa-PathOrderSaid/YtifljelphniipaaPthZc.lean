import Derived.Test.YtifljelphniipaaPthZb
import Derived.Deep.RegionHeld3
set_option linter.unusedVariables false
set_option linter.unusedSimpArgs false
namespace Go.Proofs.Ytifljelphniipaa
open Go.RowKit
attribute [local go_sem ↓] Go.wp_at_zero Go.wp_at_succ
theorem four_alloc {w : World} {o : Obj} {a b c d : Addr} {p q r s : Value} (h : w.cell? a = some p ∧ w.cell? b = some q ∧ w.cell? c = some r ∧ w.cell? d = some s) : (w.alloc o).cell? a = some p ∧ (w.alloc o).cell? b = some q ∧ (w.alloc o).cell? c = some r ∧ (w.alloc o).cell? d = some s :=
  have hb := (Below.refl w.heap.size w).alloc (Nat.le_refl _) o
  ⟨cell_on hb h.1, cell_on hb h.2.1, cell_on hb h.2.2.1, cell_on hb h.2.2.2⟩
set_option maxHeartbeats 2000000 in
theorem pcmp_some (x y : Nat) (xs ys : List Int) (a1 a2 : Option Addr) (m1 m2 c1 c2 : Nat) (h1 : xs.length = m1) (h2 : ys.length = m2) (l1 : m1 ≤ 1000000) (l2 : m2 ≤ 1000000) (w : World) (HX : Hid (Ints xs a1 m1 w)) (HY : Hid (Ints ys a2 m2 w)) :
    Calls Try.prog 24 #[.agg #[.slice a1 m1 c1, .int .u64 (x : Int)], .agg #[.slice a2 m2 c2, .int .u64 (y : Int)]] w fun e w' => e = .returned (.int .i64 (cmpF x xs y ys)) ∧ Below w.heap.size w w' := by
  have hbA := (Below.refl w.heap.size w).alloc (Nat.le_refl _) (.cells #[.slice a1 m1 c1, .int .u64 (x : Int)] 40)
  have HB := Lib.hid (hbA.alloc hbA.size (.cells #[.slice a2 m2 c2, .int .u64 (y : Int)] 40))
  have HL := Lib.hid (fun W (hb : Below w.heap.size w W) => pless_some xs ys a1 a2 m1 m2 c1 c2 h1 h2 l1 l2 W (Lib.hid (HX.out.on hb)) (Lib.hid (HY.out.on hb)))
  have HC := Lib.hid (fun W => pcmpu x y W)
  have HE := Lib.hid (cmpF_or x xs y ys)
  clear hbA HX HY
  generalize (if x < y then (-1 : Int) else if y < x then 1 else 0) = z at HC HE
  generalize lessF xs ys = r at HL HE
  have HO := Lib.hid (fun W b g0 g1 => por_two z r b W g0 g1)
  generalize (if z = 0 then r else z) = u at HO HE
  have b0 : ((w.alloc (.cells #[.slice a1 m1 c1, .int .u64 (x : Int)] 40)).alloc (.cells #[.slice a2 m2 c2, .int .u64 (y : Int)] 40)).drew.cell? ⟨w.heap.size, 0, none⟩ = some (.slice a1 m1 c1) := by simp
  have b1 : ((w.alloc (.cells #[.slice a1 m1 c1, .int .u64 (x : Int)] 40)).alloc (.cells #[.slice a2 m2 c2, .int .u64 (y : Int)] 40)).drew.cell? ⟨w.heap.size, 1, none⟩ = some (.int .u64 (x : Int)) := by simp
  have b2 : ((w.alloc (.cells #[.slice a1 m1 c1, .int .u64 (x : Int)] 40)).alloc (.cells #[.slice a2 m2 c2, .int .u64 (y : Int)] 40)).drew.cell? ⟨w.heap.size + 1, 0, none⟩ = some (.slice a2 m2 c2) := by simp
  have b3 : ((w.alloc (.cells #[.slice a1 m1 c1, .int .u64 (x : Int)] 40)).alloc (.cells #[.slice a2 m2 c2, .int .u64 (y : Int)] 40)).drew.cell? ⟨w.heap.size + 1, 1, none⟩ = some (.int .u64 (y : Int)) := by simp
  have HBd := Lib.hid HB.out.drew
  go_enter Try.func24, Try.ntmps24
  go_wp2
  go_region_held3 (fun w' => w'.cell? ⟨w.heap.size, 0, none⟩ = some (.slice a1 m1 c1) ∧ w'.cell? ⟨w.heap.size, 1, none⟩ = some (.int .u64 (x : Int)) ∧ w'.cell? ⟨w.heap.size + 1, 0, none⟩ = some (.slice a2 m2 c2) ∧ w'.cell? ⟨w.heap.size + 1, 1, none⟩ = some (.int .u64 (y : Int))) (first | exact ⟨b0, b1, b2, b3⟩ | exact four_alloc ⟨b0, b1, b2, b3⟩) (first
    | (go_at_call 39; refine (HC.out _).mono ?_; rintro e w' ⟨rfl, hw'⟩; obtain rfl := hw'.symm; clear HC)
    | (go_at_call 22; refine (HL.out _ HBd.out).mono ?_; rintro e w2 ⟨rfl, hB⟩; have HB2 := Lib.hid (on_trans HBd.out hB); have b0 := cell_on hB b0; have b1 := cell_on hB b1; have b2 := cell_on hB b2; have b3 := cell_on hB b3; clear hB HL)
    | (go_at_call 38; refine (HO.out _ w2.heap.size (by simp) (by simp)).mono ?_; rintro e w3 ⟨rfl, hB⟩; have HB3 := Lib.hid (on_trans (HB2.out.alloc HB2.out.size _) hB); have hq := (Below.refl w2.heap.size w2).alloc (Nat.le_refl _) (.cells #[.int .i64 z, .int .i64 r] 3); have b0 := cell_on hB (cell_on hq b0); have b1 := cell_on hB (cell_on hq b1); have b2 := cell_on hB (cell_on hq b2); have b3 := cell_on hB (cell_on hq b3); clear hB hq HO))
  go_wp2
  go_ret
  exact ⟨by rw [HE.out]; rfl, HB3.out⟩
set_option maxHeartbeats 1000000 in
theorem psame8_some (x y : Nat) (xs ys : List Int) (a1 a2 : Option Addr) (m1 m2 c1 c2 : Nat) (h1 : xs.length = m1) (h2 : ys.length = m2) (l1 : m1 ≤ 1000000) (l2 : m2 ≤ 1000000) (w : World) (HX : Hid (Ints xs a1 m1 w)) (HY : Hid (Ints ys a2 m2 w)) :
    Calls Try.prog 26 #[.agg #[.slice a1 m1 c1, .int .u64 (x : Int)], .agg #[.slice a2 m2 c2, .int .u64 (y : Int)]] w fun e w' => e = .returned (.bool (decide (cmpF x xs y ys = 0))) ∧ Below w.heap.size w w' := by
  have hbA := (Below.refl w.heap.size w).alloc (Nat.le_refl _) (.cells #[.slice a1 m1 c1, .int .u64 (x : Int)] 40)
  have hbB := hbA.alloc hbA.size (.cells #[.slice a2 m2 c2, .int .u64 (y : Int)] 40)
  have HB := Lib.hid hbB
  have HC := Lib.hid (fun W (hb : Below w.heap.size w W) => pcmp_some x y xs ys a1 a2 m1 m2 c1 c2 h1 h2 l1 l2 W (Lib.hid (HX.out.on hb)) (Lib.hid (HY.out.on hb)))
  clear hbA hbB HX HY
  generalize cmpF x xs y ys = z at HC ⊢
  have r1 : (z == 0) = decide (z = 0) := rfl
  obtain ⟨q, hq⟩ : ∃ q, decide (z = 0) = q := ⟨_, rfl⟩
  rw [hq] at r1 ⊢
  clear hq
  go_enter Try.func26, Try.ntmps26
  go_wp2_with (go_at_call 24; refine (HC.out _ HB.out).mono ?_; rintro e w1 ⟨rfl, hB⟩; have HB1 := Lib.hid (on_trans HB.out hB); clear hB HC)
  go_ret
  exact ⟨rfl, HB1.out⟩
end Go.Proofs.Ytifljelphniipaa
