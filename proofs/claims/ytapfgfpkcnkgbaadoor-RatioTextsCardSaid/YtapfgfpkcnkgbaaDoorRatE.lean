import Derived.Test.YtapfgfpkcnkgbaaDoorNumD
import Derived.Test.YtapfgfpkcnkgbaaDoorRatC
set_option linter.unusedVariables false
set_option linter.unusedSimpArgs false
namespace Go.Proofs.YtapfgfpkcnkgbaaDoor
open Go.RowKit Go.Sort Go.Lib
def printL (n d : Nat) : List UInt8 := if okR n d = true then decDigits n ++ 47 :: decDigits d else []
theorem pow10_next {w w1 : World} (h : Pow10 w) (hb : Below w.heap.size w w1) : Pow10 w1 := pow10_below h hb (size_pos h)
theorem keepP {w W w1 : World} {B : Nat} {a b1 : Value} (hb : Below W.heap.size W w1)
    (h : W.cell? ⟨B, 0, none⟩ = some a ∧ W.cell? ⟨B, 1, none⟩ = some b1 ∧ B + 1 ≤ W.heap.size ∧ Below B w W ∧ Pow10 W) :
    w1.cell? ⟨B, 0, none⟩ = some a ∧ w1.cell? ⟨B, 1, none⟩ = some b1 ∧ B + 1 ≤ w1.heap.size ∧ Below B w w1 ∧ Pow10 w1 := by
  obtain ⟨k1, k2, k3, k4⟩ := keep2 hb ⟨h.1, h.2.1, h.2.2.1, h.2.2.2.1⟩
  exact ⟨k1, k2, k3, k4, pow10_next h.2.2.2.2 hb⟩
theorem boxP (w : World) (a b1 : Value) (T : TypeId) (h : Pow10 w) : (w.alloc (.cells #[a, b1] T)).cell? ⟨w.heap.size, 0, none⟩ = some a ∧ (w.alloc (.cells #[a, b1] T)).cell? ⟨w.heap.size, 1, none⟩ = some b1 ∧ w.heap.size + 1 ≤ (w.alloc (.cells #[a, b1] T)).heap.size ∧ Below w.heap.size w (w.alloc (.cells #[a, b1] T)) ∧ Pow10 (w.alloc (.cells #[a, b1] T)) := by
  obtain ⟨k1, k2, k3, k4⟩ := box2 w a b1 T
  exact ⟨k1, k2, k3, k4, pow10_next h k4⟩
theorem print_no (n d : Nat) (hok : okR n d = false) (w : World) :
    Calls Tryd.prog 12 #[.agg #[.int .u64 n, .int .u64 d]] w fun e w' => e = .returned (.string ⟨#[]⟩) ∧ Below w.heap.size w w' := by
  have HR := Lib.hid (right_any n d)
  rw [hok] at HR
  clear hok
  go_enter Tryd.func12, Tryd.ntmps12
  go_wp2_with (first
    | (go_at_call 10; refine (HR.out _).mono ?_; rintro e w1 ⟨rfl, hb1⟩))
  go_ret
  exact ⟨rfl, (keep2 hb1 (box2 w _ _ _)).2.2.2⟩
set_option maxHeartbeats 400000 in
theorem print_ok (n d : Nat) (hok : okR n d = true) (s1 s2 : ByteArray) (h1 : s1.size ≤ 20) (h2 : s2.size ≤ 20)
    (P1 : Hid (∀ w, Pow10 w → Calls Tryd.prog 28 #[.int .u64 n] w fun e w' => e = .returned (.string s1) ∧ Below w.heap.size w w'))
    (P2 : Hid (∀ w, Pow10 w → Calls Tryd.prog 28 #[.int .u64 d] w fun e w' => e = .returned (.string s2) ∧ Below w.heap.size w w')) (w : World) (htab : Pow10 w) :
    Calls Tryd.prog 12 #[.agg #[.int .u64 n, .int .u64 d]] w fun e w' => e = .returned (.string (s1 ++ ⟨#[47]⟩ ++ s2)) ∧ Below w.heap.size w w' := by
  have HR := Lib.hid (right_any n d)
  rw [hok] at HR
  clear hok
  have HT := Lib.hid htab
  clear htab
  have g1 : ¬ 9223372036854775807 < s1.size + 1 := by omega
  have g2 : ¬ 9223372036854775807 < s1.size + 1 + s2.size := by omega
  clear h1 h2
  go_enter Tryd.func12, Tryd.ntmps12
  go_wp2_with (first
    | (go_at_call 10; refine (HR.out _).mono ?_; rintro e w1 ⟨rfl, hb1⟩; have HK := Lib.hid (keepP hb1 (boxP w _ _ _ HT.out))))
  clear hb1 HR
  go_region_held3 (fun w' => w'.cell? ⟨w.heap.size, 0, none⟩ = some (Value.int .u64 n) ∧ w'.cell? ⟨w.heap.size, 1, none⟩ = some (Value.int .u64 d) ∧ w.heap.size + 1 ≤ w'.heap.size ∧ Below w.heap.size w w' ∧ Pow10 w')
    (first
      | exact keepP hb3 ‹_›
      | exact keepP hb4 ‹_›
      | exact ⟨HK.out.1, HK.out.2.1, HK.out.2.2.1, HK.out.2.2.2.1.drew, pow10_next HK.out.2.2.2.2 (Below.refl _ _).drew⟩
      | go_keep)
    (first
    | (go_at_call_of 28 (Value.int .u64 n); refine (P1.out _ ?_).mono ?_; (· exact (‹_ ∧ _ ∧ _ ∧ _ ∧ Pow10 _›).2.2.2.2); rintro e w3 ⟨rfl, hb3⟩)
    | (go_at_call_of 28 (Value.int .u64 d); refine (P2.out _ ?_).mono ?_; (· exact (‹_ ∧ _ ∧ _ ∧ _ ∧ Pow10 _›).2.2.2.2); rintro e w4 ⟨rfl, hb4⟩))
  rename_i hH
  go_wp2
  go_ret
  exact ⟨rfl, hH.2.2.2.1⟩
theorem len20 (u : Nat) (hu : u < 18446744073709551616) : (decDigits u).length ≤ 20 := by rw [decDigits_length]; exact nDigits_le20 _ hu
theorem size20 (u : Nat) (hu : u < 18446744073709551616) : (ByteArray.mk (decDigits u).toArray).size ≤ 20 := by
  have := len20 u hu
  simpa [ByteArray.size] using this
theorem cat3 (a b : List UInt8) : (⟨a.toArray⟩ ++ ⟨#[47]⟩ ++ ⟨b.toArray⟩ : ByteArray) = ⟨(a ++ 47 :: b).toArray⟩ := by
  apply ByteArray.ext
  simp
theorem prat_any (n d : Nat) (hn : n < 18446744073709551616) (hd : d < 18446744073709551616) (w : World) (htab : Pow10 w) :
    Calls Tryd.prog 12 #[.agg #[.int .u64 n, .int .u64 d]] w fun e w' => e = .returned (.string ⟨(printL n d).toArray⟩) ∧ Below w.heap.size w w' := by
  unfold printL
  cases hok : okR n d
  · rw [if_neg (by simp)]; exact print_no n d hok w
  · rw [if_pos rfl, ← cat3]
    exact print_ok n d hok _ _ (size20 n hn) (size20 d hd) (Lib.hid (fun w h => print_any n hn w h)) (Lib.hid (fun w h => print_any d hd w h)) w htab
theorem rprat_no (n d : Nat) (hok : okR n d = false) (w : World) :
    Calls Tryd.prog 13 #[.agg #[.int .u64 n, .int .u64 d]] w fun e w' => e = .returned (.string ⟨#[]⟩) ∧ Below w.heap.size w w' := by
  have HR := Lib.hid (rright_any n d)
  rw [hok] at HR
  clear hok
  go_enter Tryd.func13, Tryd.ntmps13
  go_wp2_with (first
    | (go_at_call 11; refine (HR.out _).mono ?_; rintro e w1 ⟨rfl, hb1⟩))
  go_ret
  exact ⟨rfl, (keep2 hb1 (box2 w _ _ _)).2.2.2⟩
set_option maxHeartbeats 400000 in
theorem rprat_ok (n d : Nat) (hok : okR n d = true) (s1 s2 : ByteArray) (h1 : s1.size ≤ 20) (h2 : s2.size ≤ 20)
    (P1 : Hid (∀ w, Pow10 w → Calls Tryd.prog 29 #[.int .u64 n] w fun e w' => e = .returned (.string s1) ∧ Below w.heap.size w w'))
    (P2 : Hid (∀ w, Pow10 w → Calls Tryd.prog 29 #[.int .u64 d] w fun e w' => e = .returned (.string s2) ∧ Below w.heap.size w w')) (w : World) (htab : Pow10 w) :
    Calls Tryd.prog 13 #[.agg #[.int .u64 n, .int .u64 d]] w fun e w' => e = .returned (.string (s1 ++ ⟨#[47]⟩ ++ s2)) ∧ Below w.heap.size w w' := by
  have HR := Lib.hid (rright_any n d)
  rw [hok] at HR
  clear hok
  have HT := Lib.hid htab
  clear htab
  have g1 : ¬ 9223372036854775807 < s1.size + 1 := by omega
  have g2 : ¬ 9223372036854775807 < s1.size + 1 + s2.size := by omega
  clear h1 h2
  go_enter Tryd.func13, Tryd.ntmps13
  go_wp2_with (first
    | (go_at_call 11; refine (HR.out _).mono ?_; rintro e w1 ⟨rfl, hb1⟩; have HK := Lib.hid (keepP hb1 (boxP w _ _ _ HT.out))))
  clear hb1 HR
  go_region_held3 (fun w' => w'.cell? ⟨w.heap.size, 0, none⟩ = some (Value.int .u64 n) ∧ w'.cell? ⟨w.heap.size, 1, none⟩ = some (Value.int .u64 d) ∧ w.heap.size + 1 ≤ w'.heap.size ∧ Below w.heap.size w w' ∧ Pow10 w')
    (first
      | exact keepP hb3 ‹_›
      | exact keepP hb4 ‹_›
      | exact ⟨HK.out.1, HK.out.2.1, HK.out.2.2.1, HK.out.2.2.2.1.drew, pow10_next HK.out.2.2.2.2 (Below.refl _ _).drew⟩
      | go_keep)
    (first
    | (go_at_call_of 29 (Value.int .u64 n); refine (P1.out _ ?_).mono ?_; (· exact (‹_ ∧ _ ∧ _ ∧ _ ∧ Pow10 _›).2.2.2.2); rintro e w3 ⟨rfl, hb3⟩)
    | (go_at_call_of 29 (Value.int .u64 d); refine (P2.out _ ?_).mono ?_; (· exact (‹_ ∧ _ ∧ _ ∧ _ ∧ Pow10 _›).2.2.2.2); rintro e w4 ⟨rfl, hb4⟩))
  rename_i hH
  go_wp2
  go_ret
  exact ⟨rfl, hH.2.2.2.1⟩
theorem rprat_any (n d : Nat) (hn : n < 18446744073709551616) (hd : d < 18446744073709551616) (w : World) (htab : Pow10 w) :
    Calls Tryd.prog 13 #[.agg #[.int .u64 n, .int .u64 d]] w fun e w' => e = .returned (.string ⟨(printL n d).toArray⟩) ∧ Below w.heap.size w w' := by
  unfold printL
  cases hok : okR n d
  · rw [if_neg (by simp)]; exact rprat_no n d hok w
  · rw [if_pos rfl, ← cat3]
    exact rprat_ok n d hok _ _ (size20 n hn) (size20 d hd) (Lib.hid (fun w _ => rprint_any n hn w)) (Lib.hid (fun w _ => rprint_any d hd w)) w htab
