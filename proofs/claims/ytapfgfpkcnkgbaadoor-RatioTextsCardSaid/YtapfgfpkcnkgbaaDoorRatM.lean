import Derived.Test.YtapfgfpkcnkgbaaDoorRatK
import Derived.Test.YtapfgfpkcnkgbaaDoorRatF
set_option linter.unusedVariables false
set_option linter.unusedSimpArgs false
namespace Go.Proofs.YtapfgfpkcnkgbaaDoor
open Go.RowKit Go.Sort Go.Lib
theorem keepT {w W w1 : World} {B : Nat} {p1 p2 p3 p4 p5 p6 : Addr} {v1 v2 v3 v4 v5 v6 : Value} (hb : Below W.heap.size W w1)
    (h : W.cell? p1 = some v1 ∧ W.cell? p2 = some v2 ∧ W.cell? p3 = some v3 ∧ W.cell? p4 = some v4 ∧ W.cell? p5 = some v5 ∧ W.cell? p6 = some v6 ∧ B ≤ W.heap.size ∧ Below B w W ∧ Pow10 W) :
    w1.cell? p1 = some v1 ∧ w1.cell? p2 = some v2 ∧ w1.cell? p3 = some v3 ∧ w1.cell? p4 = some v4 ∧ w1.cell? p5 = some v5 ∧ w1.cell? p6 = some v6 ∧ B ≤ w1.heap.size ∧ Below B w w1 ∧ Pow10 w1 := by
  obtain ⟨k1, k2, k3, k4, k5, k6, k7, k8, k9⟩ := h
  exact ⟨cell_on hb k1, cell_on hb k2, cell_on hb k3, cell_on hb k4, cell_on hb k5, cell_on hb k6, Nat.le_trans k7 hb.size, k8.trans (hb.mono k7), pow10_next k9 hb⟩
theorem startT {w w1 w2 : World} {n d px py : Nat} {T : TypeId} (htab : Pow10 w) (hb1 : Below (w.alloc (.cells #[.int .u64 n, .int .u64 d] T)).heap.size (w.alloc (.cells #[.int .u64 n, .int .u64 d] T)) w1)
    (hb2 : Below (w1.alloc (.cells #[.int .u64 px, .int .u64 py] T)).heap.size (w1.alloc (.cells #[.int .u64 px, .int .u64 py] T)) w2) :
    (w2.alloc (.cells #[.int .u64 px, .int .u64 py] T)).drew.cell? ⟨w.heap.size, 0, none⟩ = some (Value.int .u64 n) ∧ (w2.alloc (.cells #[.int .u64 px, .int .u64 py] T)).drew.cell? ⟨w.heap.size, 1, none⟩ = some (Value.int .u64 d) ∧
    (w2.alloc (.cells #[.int .u64 px, .int .u64 py] T)).drew.cell? ⟨w1.heap.size, 0, none⟩ = some (Value.int .u64 px) ∧ (w2.alloc (.cells #[.int .u64 px, .int .u64 py] T)).drew.cell? ⟨w1.heap.size, 1, none⟩ = some (Value.int .u64 py) ∧
    (w2.alloc (.cells #[.int .u64 px, .int .u64 py] T)).drew.cell? ⟨w2.heap.size, 0, none⟩ = some (Value.int .u64 px) ∧ (w2.alloc (.cells #[.int .u64 px, .int .u64 py] T)).drew.cell? ⟨w2.heap.size, 1, none⟩ = some (Value.int .u64 py) ∧
    w.heap.size ≤ (w2.alloc (.cells #[.int .u64 px, .int .u64 py] T)).drew.heap.size ∧ Below w.heap.size w (w2.alloc (.cells #[.int .u64 px, .int .u64 py] T)).drew ∧ Pow10 (w2.alloc (.cells #[.int .u64 px, .int .u64 py] T)).drew := by
  obtain ⟨r0, r1, rs, rb⟩ := box2 w (.int .u64 n) (.int .u64 d) T
  obtain ⟨a0, a1, as1, ab⟩ := box2 w1 (.int .u64 px) (.int .u64 py) T
  obtain ⟨b0, b1, bs, bb⟩ := box2 w2 (.int .u64 px) (.int .u64 py) T
  have t1 := hb1.size
  have t2 := hb2.size
  have hall : Below w.heap.size w (w2.alloc (.cells #[.int .u64 px, .int .u64 py] T)).drew := by
    refine Below.drew ?_
    exact rb.trans ((hb1.mono (by omega)).trans ((ab.mono (by omega)).trans ((hb2.mono (by omega)).trans (bb.mono (by omega)))))
  exact ⟨cell_on bb.drew (cell_on hb2 (cell_on ab (cell_on hb1 r0))), cell_on bb.drew (cell_on hb2 (cell_on ab (cell_on hb1 r1))), cell_on bb.drew (cell_on hb2 a0), cell_on bb.drew (cell_on hb2 a1), b0, b1, hall.size, hall, pow10_next htab hall⟩
theorem texts_long (n d : Nat) (s : ByteArray) (hs : s.size ≤ maxLen) (h : 100 < s.size) (w : World) (htab : Pow10 w) :
    Calls Tryd.prog 3 #[.agg #[.int .u64 n, .int .u64 d], .string s] w fun e w' => e = .returned (.bool true) ∧ Below w.heap.size w w' := by
  unfold maxLen at hs
  have HB := Lib.hid (show Below w.heap.size w (w.alloc (.cells #[.int .u64 n, .int .u64 d] 24)) from (Below.refl _ _).alloc (Nat.le_refl _) _)
  have HT := Lib.hid htab
  clear htab
  go_enter Tryd.func3, Tryd.ntmps3
  go_wp2_with (first
    | (go_at_call 7; refine (alive_any _ (pow10_next HT.out HB.out)).mono ?_; rintro e w13 ⟨rfl, hb13⟩))
  go_ret
  exact ⟨rfl, HB.out.trans (hb13.mono (by simp))⟩
set_option maxHeartbeats 1000000 in
theorem texts_short (n d : Nat) (s : ByteArray) (h : s.size ≤ 100) (px py : Nat) (pf : Int) (sp : ByteArray) (x : Bool) (w : World) (htab : Pow10 w)
    (A1 : Hid (∀ W, Below w.heap.size w W → Calls Tryd.prog 8 #[.string s] W fun e w' => e = .returned (.tuple #[.agg #[.int .u64 px, .int .u64 py], .int .i64 pf]) ∧ Below W.heap.size W w'))
    (A2 : Hid (∀ W, Calls Tryd.prog 9 #[.string s] W fun e w' => e = .returned (.tuple #[.agg #[.int .u64 px, .int .u64 py], .int .i64 pf]) ∧ Below W.heap.size W w'))
    (R1 : Hid (∀ w, Calls Tryd.prog 10 #[.agg #[.int .u64 n, .int .u64 d]] w fun e w' => e = .returned (.bool x) ∧ Below w.heap.size w w'))
    (R2 : Hid (∀ w, Calls Tryd.prog 11 #[.agg #[.int .u64 n, .int .u64 d]] w fun e w' => e = .returned (.bool x) ∧ Below w.heap.size w w'))
    (P1 : Hid (∀ w, Pow10 w → Calls Tryd.prog 12 #[.agg #[.int .u64 n, .int .u64 d]] w fun e w' => e = .returned (.string sp) ∧ Below w.heap.size w w'))
    (P2 : Hid (∀ w, Pow10 w → Calls Tryd.prog 13 #[.agg #[.int .u64 n, .int .u64 d]] w fun e w' => e = .returned (.string sp) ∧ Below w.heap.size w w')) :
    Calls Tryd.prog 3 #[.agg #[.int .u64 n, .int .u64 d], .string s] w fun e w' => e = .returned (.bool true) ∧ Below w.heap.size w w' := by
  have HB := Lib.hid (show Below w.heap.size w (w.alloc (.cells #[.int .u64 n, .int .u64 d] 24)) from (Below.refl _ _).alloc (Nat.le_refl _) _)
  have HT := Lib.hid htab
  clear htab
  go_enter Tryd.func3, Tryd.ntmps3
  go_wp2_with (first
    | (go_at_call 8; refine (A1.out _ HB.out).mono ?_; rintro e w1 ⟨rfl, hb1⟩)
    | (go_at_call 9; refine (A2.out _).mono ?_; rintro e w2 ⟨rfl, hb2⟩))
  have HS := Lib.hid (startT (px := px) (py := py) HT.out hb1 hb2)
  clear HB HT hb1 hb2 A1 A2
  go_region_held3 (fun w' => w'.cell? ⟨w.heap.size, 0, none⟩ = some (Value.int .u64 n) ∧ w'.cell? ⟨w.heap.size, 1, none⟩ = some (Value.int .u64 d) ∧ w'.cell? ⟨w1.heap.size, 0, none⟩ = some (Value.int .u64 px) ∧ w'.cell? ⟨w1.heap.size, 1, none⟩ = some (Value.int .u64 py) ∧ w'.cell? ⟨w2.heap.size, 0, none⟩ = some (Value.int .u64 px) ∧ w'.cell? ⟨w2.heap.size, 1, none⟩ = some (Value.int .u64 py) ∧ w.heap.size ≤ w'.heap.size ∧ Below w.heap.size w w' ∧ Pow10 w')
    (first
      | exact keepT hb4 ‹_›
      | exact keepT hb5 ‹_›
      | exact keepT hb6 ‹_›
      | exact keepT hb7 ‹_›
      | exact keepT hb8 ‹_›
      | exact HS.out
      | go_keep)
    (first
    | (go_at_call 10; refine (R1.out _).mono ?_; rintro e w4 ⟨rfl, hb4⟩)
    | (go_at_call 11; refine (R2.out _).mono ?_; rintro e w5 ⟨rfl, hb5⟩)
    | (go_at_call 12; refine (P1.out _ ?_).mono ?_; (· exact (‹_ ∧ _ ∧ _ ∧ _ ∧ _ ∧ _ ∧ _ ∧ _ ∧ Pow10 _›).2.2.2.2.2.2.2.2); rintro e w6 ⟨rfl, hb6⟩)
    | (go_at_call 13; refine (P2.out _ ?_).mono ?_; (· exact (‹_ ∧ _ ∧ _ ∧ _ ∧ _ ∧ _ ∧ _ ∧ _ ∧ Pow10 _›).2.2.2.2.2.2.2.2); rintro e w7 ⟨rfl, hb7⟩)
    | (go_at_call 7; refine (alive_any _ ?_).mono ?_; (· exact (‹_ ∧ _ ∧ _ ∧ _ ∧ _ ∧ _ ∧ _ ∧ _ ∧ Pow10 _›).2.2.2.2.2.2.2.2); rintro e w8 ⟨rfl, hb8⟩))
  rename_i hH
  go_wp2
  go_ret
  exact ⟨rfl, hH.2.2.2.2.2.2.2.1⟩
theorem texts_any (n d : Nat) (s : ByteArray) (hn : n < 18446744073709551616) (hd : d < 18446744073709551616) (hs : s.size ≤ maxLen) (w : World) (htab : Pow10 w) (hm : MaxI w) :
    Calls Tryd.prog 3 #[.agg #[.int .u64 n, .int .u64 d], .string s] w fun e w' => e = .returned (.bool true) ∧ Below w.heap.size w w' := by
  by_cases h : s.size ≤ 100
  · exact texts_short n d s h _ _ _ _ _ w htab (Lib.hid fun W hW => prat_parse s h W (maxI_on hW hm)) (Lib.hid fun W => rprat_parse s h W) (Lib.hid (right_any n d)) (Lib.hid (rright_any n d)) (Lib.hid fun W hW => prat_any n d hn hd W hW) (Lib.hid fun W hW => rprat_any n d hn hd W hW)
  · exact texts_long n d s hs (by omega) w htab
