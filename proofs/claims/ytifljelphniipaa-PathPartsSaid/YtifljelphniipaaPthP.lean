import Derived.Test.YtifljelphniipaaPthN
set_option linter.unusedVariables false
set_option linter.unusedSimpArgs false
namespace Go.Proofs.Ytifljelphniipaa
open Go.RowKit
attribute [local go_sem ↓] Go.wp_at_zero Go.wp_at_succ
theorem lessF_neg : ∀ (xs ys : List Int), lessF xs ys = -lessF ys xs
  | [], [] => rfl
  | [], _ :: _ => rfl
  | _ :: _, [] => rfl
  | a :: x, b :: y => by
    have ih := lessF_neg x y
    show (if a < b then -1 else if b < a then 1 else lessF x y) = -(if b < a then -1 else if a < b then 1 else lessF y x)
    split <;> split <;> simp_all <;> omega
theorem lessF_rng : ∀ (xs ys : List Int), lessF xs ys = -1 ∨ lessF xs ys = 0 ∨ lessF xs ys = 1
  | [], [] => .inr (.inl rfl)
  | [], _ :: _ => .inl rfl
  | _ :: _, [] => .inr (.inr rfl)
  | a :: x, b :: y => by
    have ih := lessF_rng x y
    show (if a < b then -1 else if b < a then 1 else lessF x y) = -1 ∨ (if a < b then -1 else if b < a then 1 else lessF x y) = 0 ∨ (if a < b then -1 else if b < a then 1 else lessF x y) = 1
    split
    · exact .inl rfl
    · split
      · exact .inr (.inr rfl)
      · exact ih
theorem lessF_trans : ∀ (xs ys zs : List Int), lessF xs ys ≤ 0 → lessF ys zs ≤ 0 → lessF xs zs ≤ 0
  | [], _, [], _, _ => Int.le_refl _
  | [], _, _ :: _, _, _ => by show (-1 : Int) ≤ 0; decide
  | _ :: _, [], _, h, _ => by have h : (1 : Int) ≤ 0 := h; omega
  | _ :: _, _ :: _, [], _, h => by have h : (1 : Int) ≤ 0 := h; omega
  | a :: x, b :: y, c :: z, h1, h2 => by
    have ih := lessF_trans x y z
    have h1 : (if a < b then -1 else if b < a then 1 else lessF x y) ≤ 0 := h1
    have h2 : (if b < c then -1 else if c < b then 1 else lessF y z) ≤ 0 := h2
    show (if a < c then -1 else if c < a then 1 else lessF x z) ≤ 0
    split at h1 <;> split at h2 <;> split <;> (try split at h1) <;> (try split at h2) <;> (try split) <;> first | omega | exact ih h1 h2
theorem cmpF_neg (x y : Nat) (xs ys : List Int) : cmpF x xs y ys = -cmpF y ys x xs := by
  have := lessF_neg xs ys
  unfold cmpF
  split <;> split <;> first | omega | rfl
theorem cmpF_rng (x y : Nat) (xs ys : List Int) : cmpF x xs y ys = -1 ∨ cmpF x xs y ys = 0 ∨ cmpF x xs y ys = 1 := by
  have := lessF_rng xs ys
  unfold cmpF
  split
  · exact .inl rfl
  · split
    · exact .inr (.inr rfl)
    · exact this
theorem cmpF_trans (x y z : Nat) (xs ys zs : List Int) (h1 : cmpF x xs y ys ≤ 0) (h2 : cmpF y ys z zs ≤ 0) : cmpF x xs z zs ≤ 0 := by
  have ih := lessF_trans xs ys zs
  unfold cmpF at *
  split at h1 <;> split at h2 <;> split <;> (try split at h1) <;> (try split at h2) <;> (try split) <;> first | omega | exact ih h1 h2
end Go.Proofs.Ytifljelphniipaa
