import Derived.Test.YtagpmjpkbnfhnaaTokS
import Derived.WalkKit
import Derived.ProofKit
import Derived.OpenShut
import Derived.Lib.Hide
import Derived.WalkLawsBesides
import Derived.WalkSpells
import Derived.Laws.IdiomStrings
import Derived.Laws.OwnMore
import Derived.OwnWalk
import Derived.ScopeJumps
set_option linter.unusedVariables false
set_option linter.unusedSimpArgs false
namespace Go.Proofs.Ytagpmjpkbnfhnaa
open Go.RowKit
/-- By a goto to a label: J of that label; every other way out: Q. -/
def jumps (J : Nat → Act → World → Prop) (Q : Exit → Act → World → Prop) : Exit → Act → World → Prop
  | .goto l, a, w => J l a w
  | e, a, w => Q e a w
/-- Whatever leaves a scope by no goto leaves what is around it in the same way. -/
theorem leave_scope {P : Program} {m : Machine} {b : Frame} {c : Code} {k : List Item} {cs : List Frame} {e : Exit} {a : Act} {w : World} (hn : ∀ l, e ≠ .goto l)
    (h : Arrives P m b (.inScope c :: k) cs e a w) : Arrives P m b k cs e a w := by
  cases e with
  | goto l => exact absurd rfl (hn l)
  | normal => exact h.trans (.one step_inScope)
  | exit id => exact fun k' hk => h k' (by rw [← hk]; rfl)
  | _ => exact h
/-- A SCOPE IN WHICH THE RUN JUMPS TO SEVERAL LABELS, with what holds at each (J) and a measure that each jump lowers. -/
theorem wp_scope_labels {P : Program} {a : Act} {w : World} {Q : Exit → Act → World → Prop} {c : Code} (J : Nat → Act → World → Prop) (μ : Nat → Act → World → Nat)
    (first : c.wp P (jumps J Q) a w)
    (pass : ∀ l a w, J l a w → ∃ rest, findLabel c l = some rest ∧ rest.wp P (jumps (fun l' a' w' => J l' a' w' ∧ μ l' a' w' < μ l a w) Q) a w) : (Code.scope c).wp P Q a w := by
  intro b k cs
  -- from any label on, by induction over the measure
  have go : ∀ n l a w rest, μ l a w ≤ n → J l a w → findLabel c l = some rest → ∃ e a' w', Q e a' w' ∧ Arrives P (lone (b.at a (.code rest :: .inScope c :: k)) cs w) b k cs e a' w' := by
    intro n
    induction n with
    | zero =>
      intro l a w rest hle hJ hf
      obtain ⟨r, hr, hwp⟩ := pass l a w hJ
      obtain rfl : r = rest := Option.some.inj (hr.symm.trans hf)
      obtain ⟨e, a₁, w₁, hq, hx⟩ := hwp b (.inScope c :: k) cs
      by_cases hg : ∃ l', e = .goto l'
      · obtain ⟨l', rfl⟩ := hg
        have hlt : μ l' a₁ w₁ < μ l a w := hq.2
        omega
      · refine ⟨e, a₁, w₁, ?_, leave_scope (fun l' h => hg ⟨l', h⟩) hx⟩
        cases e <;> first | exact hq | exact absurd ⟨_, rfl⟩ hg
    | succ n ih =>
      intro l a w rest hle hJ hf
      obtain ⟨r, hr, hwp⟩ := pass l a w hJ
      obtain rfl : r = rest := Option.some.inj (hr.symm.trans hf)
      obtain ⟨e, a₁, w₁, hq, hx⟩ := hwp b (.inScope c :: k) cs
      by_cases hg : ∃ l', e = .goto l'
      · obtain ⟨l', rfl⟩ := hg
        obtain ⟨hJ', hlt⟩ := hq
        obtain ⟨r2, hr2, _⟩ := pass l' a₁ w₁ hJ'
        obtain ⟨e₂, a₂, w₂, hq₂, hx₂⟩ := ih l' a₁ w₁ r2 (by omega) hJ' hr2
        exact ⟨e₂, a₂, w₂, hq₂, .of_steps (hx _ (by simp [gotoIn, hr2])) hx₂⟩
      · refine ⟨e, a₁, w₁, ?_, leave_scope (fun l' h => hg ⟨l', h⟩) hx⟩
        cases e <;> first | exact hq | exact absurd ⟨_, rfl⟩ hg
  obtain ⟨e, a₁, w₁, hq, hx⟩ := first b (.inScope c :: k) cs
  by_cases hg : ∃ l', e = .goto l'
  · obtain ⟨l', rfl⟩ := hg
    obtain ⟨r2, hr2, _⟩ := pass l' a₁ w₁ hq
    obtain ⟨e₂, a₂, w₂, hq₂, hx₂⟩ := go _ l' a₁ w₁ r2 (Nat.le_refl _) hq hr2
    exact ⟨e₂, a₂, w₂, hq₂, .of_steps (.head step_scope (hx _ (by simp [gotoIn, hr2]))) hx₂⟩
  · refine ⟨e, a₁, w₁, ?_, .of_steps (.one step_scope) (leave_scope (fun l' h => hg ⟨l', h⟩) hx)⟩
    cases e <;> first | exact hq | exact absurd ⟨_, rfl⟩ hg
theorem inword_any (c : UInt8) (w : World) :
    Calls Try.prog 21 #[.int .u8 c.toNat] w fun e w' => e = .returned (.bool (wb c)) ∧ w' = w := by
  unfold wb
  by_cases h1 : 33 ≤ c.toNat
  · by_cases h2 : c.toNat ≤ 126
    · rw [decide_eq_true h1, decide_eq_true h2]
      go_enter Try.func21, Try.ntmps21
      go_wp2
      go_ret
      exact ⟨by simp; omega, rfl⟩
    · rw [decide_eq_true h1, decide_eq_false h2]
      go_enter Try.func21, Try.ntmps21
      go_wp2
      go_ret
      exact ⟨by simp; omega, rfl⟩
  · rw [decide_eq_false h1]
    go_enter Try.func21, Try.ntmps21
    go_wp2
    go_ret
    exact ⟨by simp, rfl⟩
theorem sign_any (c : UInt8) (w : World) :
    Calls Try.prog 22 #[.int .u8 c.toNat] w fun e w' => e = .returned (.bool (wb c)) ∧ w' = w := by
  unfold wb
  by_cases h1 : 33 ≤ c.toNat
  · by_cases h2 : c.toNat ≤ 126
    · rw [decide_eq_true h1, decide_eq_true h2]
      go_enter Try.func22, Try.ntmps22
      go_wp2
      go_ret
      exact ⟨by simp; omega, rfl⟩
    · rw [decide_eq_true h1, decide_eq_false h2]
      go_enter Try.func22, Try.ntmps22
      go_wp2
      go_ret
      exact ⟨by simp; omega, rfl⟩
  · rw [decide_eq_false h1]
    go_enter Try.func22, Try.ntmps22
    go_wp2
    go_ret
    exact ⟨by simp, rfl⟩
/-- All of the first k bytes are of words. -/
def AllW (s : ByteArray) (k : Nat) : Prop := ∀ j (hj : j < s.size), j < k → wb s[j] = true
theorem AllW.succ {s : ByteArray} {k : Nat} (h : AllW s k) (hk : k < s.size) (hw : wb s[k] = true) : AllW s (k + 1) := fun j hj hlt => by
  by_cases e : j = k
  · subst e; exact hw
  · exact h j hj (by omega)
theorem allW_all {s : ByteArray} (h : AllW s s.size) : s.data.toList.all wb = true := by
  rw [List.all_eq_true]
  intro x hx
  obtain ⟨i, hi, rfl⟩ := List.getElem_of_mem hx
  have hi' : i < s.size := by rw [Lib.size_eq]; exact hi
  exact h i hi' hi'
theorem right_no {s : ByteArray} {k : Nat} (hk : k < s.size) (hw : wb s[k] = false) : rightB s = false := by
  unfold rightB
  rw [Bool.and_eq_false_iff]
  left
  rw [List.all_eq_false]
  have hi : k < s.data.toList.length := by rw [← Lib.size_eq]; exact hk
  refine ⟨s.data.toList[k], List.getElem_mem hi, ?_⟩
  have e : s.data.toList[k] = s[k] := rfl
  rw [e, hw]
  simp
theorem right_yes {s : ByteArray} (h : AllW s s.size) : rightB s = decide (0 < s.size) := by
  unfold rightB
  rw [allW_all h, Bool.true_and]
theorem ne_empty (s : ByteArray) : (!s.toList.isEmpty) = decide (0 < s.size) := by
  rw [Lib.toList_data, Lib.size_eq]
  cases s.data.toList <;> simp
set_option maxHeartbeats 400000 in
theorem tright_any (s : ByteArray) (hs : s.size ≤ maxLen) (w : World) :
    Calls Try.prog 13 #[.string s] w fun e w' => e = .returned (.bool (rightB s)) ∧ w' = w := by
  unfold maxLen at hs
  go_enter Try.func13, Try.ntmps13
  go_wp2
  go_loop [6] (fun i => ∃ k : Nat, k ≤ s.size ∧ i = .int .i64 k ∧ Hid (AllW s k)) (fun i => s.size - (RowKit.intOf i).toNat)
  case atStart => exact ⟨0, Nat.zero_le _, rfl, Lib.hid fun j _ h => by omega⟩
  case round =>
    obtain ⟨k, hk, rfl, HA⟩ := hrel
    by_cases hlt : k < s.size
    · have HW := Lib.hid (fun W => inword_any s[k] W)
      cases hw : wb s[k]
      · have HN := Lib.hid (right_no hlt hw)
        rw [hw] at HW
        clear hw
        go_wp2_with (go_at_call 21; refine (HW.out _).mono ?_; rintro e w' ⟨rfl, rfl⟩)
        go_ret
        exact ⟨by rw [HN.out]; rfl, rfl⟩
      · have HN := Lib.hid (HA.out.succ hlt hw)
        rw [hw] at HW
        clear hw
        go_wp2_with (go_at_call 21; refine (HW.out _).mono ?_; rintro e w' ⟨rfl, rfl⟩)
        go_round
        case rel => exact ⟨k + 1, by omega, by go_num, HN⟩
        case measure => simp [RowKit.intOf]; omega
    · obtain rfl : k = s.size := by omega
      have HN := Lib.hid (right_yes HA.out)
      have HE := Lib.hid (ne_empty s)
      go_wp2
      go_ret
      refine ⟨?_, rfl⟩
      rw [HN.out, ← HE.out]
      rfl
set_option maxHeartbeats 400000 in
theorem rright_any (s : ByteArray) (hs : s.size ≤ maxLen) (w : World) :
    Calls Try.prog 14 #[.string s] w fun e w' => e = .returned (.bool (rightB s)) ∧ w' = w := by
  unfold maxLen at hs
  go_enter Try.func14, Try.ntmps14
  go_wp2
  go_loop [3] (fun i => ∃ k : Nat, k ≤ s.size ∧ i = .int .i64 k ∧ Hid (AllW s k)) (fun i => s.size - (RowKit.intOf i).toNat)
  case atStart => exact ⟨0, Nat.zero_le _, rfl, Lib.hid fun j _ h => by omega⟩
  case round =>
    obtain ⟨k, hk, rfl, HA⟩ := hrel
    by_cases hlt : k < s.size
    · have HW := Lib.hid (fun W => sign_any s[k] W)
      cases hw : wb s[k]
      · have HN := Lib.hid (right_no hlt hw)
        rw [hw] at HW
        clear hw
        go_wp2_with (go_at_call 22; refine (HW.out _).mono ?_; rintro e w' ⟨rfl, rfl⟩)
        go_ret
        exact ⟨by rw [HN.out]; rfl, rfl⟩
      · have HN := Lib.hid (HA.out.succ hlt hw)
        rw [hw] at HW
        clear hw
        go_wp2_with (go_at_call 22; refine (HW.out _).mono ?_; rintro e w' ⟨rfl, rfl⟩)
        go_round
        case rel => exact ⟨k + 1, by omega, by go_num, HN⟩
        case measure => simp [RowKit.intOf]; omega
    · obtain rfl : k = s.size := by omega
      have HN := Lib.hid (right_yes HA.out)
      go_wp2
      go_ret
      refine ⟨?_, rfl⟩
      rw [HN.out]
      by_cases h0 : s.size = 0 <;> simp [h0] <;> omega
end Go.Proofs.Ytagpmjpkbnfhnaa
