import Derived.Test.YtapfgfpkcnkgbaaDoorNumB
import Derived.Test.YtapfgfpkcnkgbaaDoorRatE
import Derived.Shelf.Vars
set_option linter.unusedVariables false
set_option linter.unusedSimpArgs false
namespace Go.Proofs.YtapfgfpkcnkgbaaDoor
open Go.RowKit Go.Sort Go.Lib
theorem cell_on {W w1 : World} (hb : Below W.heap.size W w1) {p : Addr} {v : Value} (h : W.cell? p = some v) : w1.cell? p = some v := by
  rw [hb.cell (World.block_lt_of_cell? W p h)]; exact h
theorem frozen_on {W w1 : World} (hb : Below W.heap.size W w1) {p : Addr} {v : Value} (h : W.cell? p = some v) (hf : W.frozen? p = false) : w1.frozen? p = false := by
  rw [hb.frozen (World.block_lt_of_cell? W p h)]; exact hf
def prN (a b : List UInt8) : Nat := if parseF a = 0 ∧ parseF b = 0 ∧ okR (parseV a) (parseV b) = true then parseV a else 0
def prD (a b : List UInt8) : Nat := if parseF a = 0 ∧ parseF b = 0 ∧ okR (parseV a) (parseV b) = true then parseV b else 0
def prF (a b : List UInt8) : Int := if parseF a = 0 ∧ parseF b = 0 then if okR (parseV a) (parseV b) = true then 0 else 2 else 3
/-- A result's cells and a pair of the call's own, behind draws and a call that writes nothing that was there. -/
theorem res_kept {w w1 : World} {a b1 c d : Value} {T T' : TypeId} {n : Nat} (hb : Below (((w.alloc (.cells #[a, b1] T)).alloc (.cells #[c, d] T')).drewN n).heap.size (((w.alloc (.cells #[a, b1] T)).alloc (.cells #[c, d] T')).drewN n) w1) :
    w1.cell? ⟨w.heap.size, 0, none⟩ = some a ∧ w1.cell? ⟨w.heap.size, 1, none⟩ = some b1 ∧ w1.cell? ⟨w.heap.size + 1, 0, none⟩ = some c ∧ w1.cell? ⟨w.heap.size + 1, 1, none⟩ = some d ∧ w1.frozen? ⟨w.heap.size, 0, none⟩ = false ∧ w1.frozen? ⟨w.heap.size, 1, none⟩ = false ∧ Below w.heap.size w w1 := by
  have e1 : (((w.alloc (.cells #[a, b1] T)).alloc (.cells #[c, d] T')).drewN n).cell? ⟨w.heap.size, 0, none⟩ = some a := by simp
  have e2 : (((w.alloc (.cells #[a, b1] T)).alloc (.cells #[c, d] T')).drewN n).cell? ⟨w.heap.size, 1, none⟩ = some b1 := by simp
  have e3 : (((w.alloc (.cells #[a, b1] T)).alloc (.cells #[c, d] T')).drewN n).cell? ⟨w.heap.size + 1, 0, none⟩ = some c := by simp
  have e4 : (((w.alloc (.cells #[a, b1] T)).alloc (.cells #[c, d] T')).drewN n).cell? ⟨w.heap.size + 1, 1, none⟩ = some d := by simp
  refine ⟨cell_on hb e1, cell_on hb e2, cell_on hb e3, cell_on hb e4, frozen_on hb e1 (by simp), frozen_on hb e2 (by simp), ?_⟩
  exact (below_drewN (((Below.refl _ _).alloc (Nat.le_refl _) _).alloc (by simp) _) n).trans (hb.mono (by simp; omega))
set_option maxHeartbeats 400000 in
theorem parse_bad1 (s s1 s2 : ByteArray) (b : Bool) (n1 n2 : Nat) (f1 f2 : Int) (h1 : (f1 != 0) = true) (w : World)
    (HC : Hid (∀ W, Below w.heap.size w W → Calls Tryd.prog 24 #[.string s, .string ⟨#[47]⟩] W fun e w' => e = .returned (.tuple #[.string s1, .string s2, .bool b]) ∧ ∃ n, w' = W.drewN n))
    (P1 : Hid (∀ W, Calls Tryd.prog 25 #[.string s1] W fun e w' => e = .returned (.tuple #[.int .u64 n1, .int .i64 f1]) ∧ w' = W))
    (P2 : Hid (∀ W, Calls Tryd.prog 25 #[.string s2] W fun e w' => e = .returned (.tuple #[.int .u64 n2, .int .i64 f2]) ∧ w' = W)) :
    Calls Tryd.prog 8 #[.string s] w fun e w' => e = .returned (.tuple #[.agg #[.int .u64 0, .int .u64 0], .int .i64 3]) ∧ Below w.heap.size w w' := by
  have HB := Lib.hid (show Below w.heap.size w (w.alloc (.cells #[.int .u64 0, .int .u64 0] 24)) from (Below.refl _ _).alloc (Nat.le_refl _) _)
  go_enter Tryd.func8, Tryd.ntmps8
  go_wp2_with (first
    | (go_at_call 24; refine (HC.out _ HB.out).mono ?_; rintro e w' ⟨rfl, n, rfl⟩)
    | (go_at_call_of 25 (Value.string s1); refine (P1.out _).mono ?_; rintro e w' ⟨rfl, rfl⟩)
    | (go_at_call_of 25 (Value.string s2); refine (P2.out _).mono ?_; rintro e w' ⟨rfl, rfl⟩))
  refine bodyPost_ret (v := .tuple #[.agg #[.int .u64 0, .int .u64 0], .int .i64 3]) ?_ rfl ⟨rfl, ((below_drewN HB.out n).setCell (p := ⟨w.heap.size, 0, none⟩) (Nat.le_refl _) _).setCell (p := ⟨w.heap.size, 1, none⟩) (Nat.le_refl _) _⟩
  simp [results, Tryd.results8, go_sem]
set_option maxHeartbeats 400000 in
theorem parse_bad2 (s s1 s2 : ByteArray) (b : Bool) (n1 n2 : Nat) (f1 f2 : Int) (h1 : (f1 != 0) = false) (h2 : (f2 != 0) = true) (w : World)
    (HC : Hid (∀ W, Below w.heap.size w W → Calls Tryd.prog 24 #[.string s, .string ⟨#[47]⟩] W fun e w' => e = .returned (.tuple #[.string s1, .string s2, .bool b]) ∧ ∃ n, w' = W.drewN n))
    (P1 : Hid (∀ W, Calls Tryd.prog 25 #[.string s1] W fun e w' => e = .returned (.tuple #[.int .u64 n1, .int .i64 f1]) ∧ w' = W))
    (P2 : Hid (∀ W, Calls Tryd.prog 25 #[.string s2] W fun e w' => e = .returned (.tuple #[.int .u64 n2, .int .i64 f2]) ∧ w' = W)) :
    Calls Tryd.prog 8 #[.string s] w fun e w' => e = .returned (.tuple #[.agg #[.int .u64 0, .int .u64 0], .int .i64 3]) ∧ Below w.heap.size w w' := by
  have HB := Lib.hid (show Below w.heap.size w (w.alloc (.cells #[.int .u64 0, .int .u64 0] 24)) from (Below.refl _ _).alloc (Nat.le_refl _) _)
  go_enter Tryd.func8, Tryd.ntmps8
  go_wp2_with (first
    | (go_at_call 24; refine (HC.out _ HB.out).mono ?_; rintro e w' ⟨rfl, n, rfl⟩)
    | (go_at_call_of 25 (Value.string s1); refine (P1.out _).mono ?_; rintro e w' ⟨rfl, rfl⟩)
    | (go_at_call_of 25 (Value.string s2); refine (P2.out _).mono ?_; rintro e w' ⟨rfl, rfl⟩))
  refine bodyPost_ret (v := .tuple #[.agg #[.int .u64 0, .int .u64 0], .int .i64 3]) ?_ rfl ⟨rfl, ((below_drewN HB.out n).setCell (p := ⟨w.heap.size, 0, none⟩) (Nat.le_refl _) _).setCell (p := ⟨w.heap.size, 1, none⟩) (Nat.le_refl _) _⟩
  simp [results, Tryd.results8, go_sem]
set_option maxHeartbeats 400000 in
theorem parse_out (s s1 s2 : ByteArray) (b : Bool) (n1 n2 : Nat) (f1 f2 : Int) (h1 : (f1 != 0) = false) (h2 : (f2 != 0) = false) (hok : okR n1 n2 = false) (w : World)
    (HC : Hid (∀ W, Below w.heap.size w W → Calls Tryd.prog 24 #[.string s, .string ⟨#[47]⟩] W fun e w' => e = .returned (.tuple #[.string s1, .string s2, .bool b]) ∧ ∃ n, w' = W.drewN n))
    (P1 : Hid (∀ W, Calls Tryd.prog 25 #[.string s1] W fun e w' => e = .returned (.tuple #[.int .u64 n1, .int .i64 f1]) ∧ w' = W))
    (P2 : Hid (∀ W, Calls Tryd.prog 25 #[.string s2] W fun e w' => e = .returned (.tuple #[.int .u64 n2, .int .i64 f2]) ∧ w' = W)) :
    Calls Tryd.prog 8 #[.string s] w fun e w' => e = .returned (.tuple #[.agg #[.int .u64 0, .int .u64 0], .int .i64 2]) ∧ Below w.heap.size w w' := by
  have HB := Lib.hid (show Below w.heap.size w (w.alloc (.cells #[.int .u64 0, .int .u64 0] 24)) from (Below.refl _ _).alloc (Nat.le_refl _) _)
  have HR := Lib.hid (right_any n1 n2)
  rw [hok] at HR
  clear hok
  go_enter Tryd.func8, Tryd.ntmps8
  go_wp2_with (first
    | (go_at_call 24; refine (HC.out _ HB.out).mono ?_; rintro e w' ⟨rfl, n, rfl⟩)
    | (go_at_call_of 25 (Value.string s1); refine (P1.out _).mono ?_; rintro e w' ⟨rfl, rfl⟩)
    | (go_at_call_of 25 (Value.string s2); refine (P2.out _).mono ?_; rintro e w' ⟨rfl, rfl⟩)
    | (go_at_call 10; refine (HR.out _).mono ?_; rintro e w1 ⟨rfl, hb1⟩; have kk := res_kept hb1; obtain ⟨c1, c2, c3, c4, g1, g2, hB1⟩ := kk))
  refine bodyPost_ret (v := .tuple #[.agg #[.int .u64 0, .int .u64 0], .int .i64 2]) ?_ rfl ⟨rfl, (hB1.setCell (p := ⟨w.heap.size, 0, none⟩) (Nat.le_refl _) _).setCell (p := ⟨w.heap.size, 1, none⟩) (Nat.le_refl _) _⟩
  simp [results, Tryd.results8, go_sem, c1, c2]
set_option maxHeartbeats 400000 in
theorem parse_in (s s1 s2 : ByteArray) (b : Bool) (n1 n2 : Nat) (f1 f2 : Int) (h1 : (f1 != 0) = false) (h2 : (f2 != 0) = false) (hok : okR n1 n2 = true) (w : World)
    (HC : Hid (∀ W, Below w.heap.size w W → Calls Tryd.prog 24 #[.string s, .string ⟨#[47]⟩] W fun e w' => e = .returned (.tuple #[.string s1, .string s2, .bool b]) ∧ ∃ n, w' = W.drewN n))
    (P1 : Hid (∀ W, Calls Tryd.prog 25 #[.string s1] W fun e w' => e = .returned (.tuple #[.int .u64 n1, .int .i64 f1]) ∧ w' = W))
    (P2 : Hid (∀ W, Calls Tryd.prog 25 #[.string s2] W fun e w' => e = .returned (.tuple #[.int .u64 n2, .int .i64 f2]) ∧ w' = W)) :
    Calls Tryd.prog 8 #[.string s] w fun e w' => e = .returned (.tuple #[.agg #[.int .u64 n1, .int .u64 n2], .int .i64 0]) ∧ Below w.heap.size w w' := by
  have HB := Lib.hid (show Below w.heap.size w (w.alloc (.cells #[.int .u64 0, .int .u64 0] 24)) from (Below.refl _ _).alloc (Nat.le_refl _) _)
  have HR := Lib.hid (right_any n1 n2)
  rw [hok] at HR
  clear hok
  go_enter Tryd.func8, Tryd.ntmps8
  go_wp2_with (first
    | (go_at_call 24; refine (HC.out _ HB.out).mono ?_; rintro e w' ⟨rfl, n, rfl⟩)
    | (go_at_call_of 25 (Value.string s1); refine (P1.out _).mono ?_; rintro e w' ⟨rfl, rfl⟩)
    | (go_at_call_of 25 (Value.string s2); refine (P2.out _).mono ?_; rintro e w' ⟨rfl, rfl⟩)
    | (go_at_call 10; refine (HR.out _).mono ?_; rintro e w1 ⟨rfl, hb1⟩; have kk := res_kept hb1; obtain ⟨c1, c2, c3, c4, g1, g2, hB1⟩ := kk))
  refine bodyPost_ret (v := .tuple #[.agg #[.int .u64 n1, .int .u64 n2], .int .i64 0]) ?_ rfl ⟨rfl, (hB1.setCell (p := ⟨w.heap.size, 0, none⟩) (Nat.le_refl _) _).setCell (p := ⟨w.heap.size, 1, none⟩) (Nat.le_refl _) _⟩
  simp [results, Tryd.results8, go_sem, c1, c2]
theorem parseV_lt (l : List UInt8) : parseV l < 18446744073709551616 := by
  unfold parseV
  split
  · omega
  · split
    · exact cutV_lt _
    · omega
theorem bne_of {f : Int} (h : f = 0) : (f != 0) = false := by subst h; rfl
theorem bne_not {f : Int} (h : ¬ f = 0) : (f != 0) = true := by simpa using h
theorem prat_pieces (s s1 s2 : ByteArray) (b : Bool) (hs1 : s1.size ≤ maxLen) (hs2 : s2.size ≤ maxLen) (w : World)
    (HC : Hid (∀ W, Below w.heap.size w W → Calls Tryd.prog 24 #[.string s, .string ⟨#[47]⟩] W fun e w' => e = .returned (.tuple #[.string s1, .string s2, .bool b]) ∧ ∃ n, w' = W.drewN n)) :
    Calls Tryd.prog 8 #[.string s] w fun e w' => e = .returned (.tuple #[.agg #[.int .u64 (prN s1.data.toList s2.data.toList : Nat), .int .u64 (prD s1.data.toList s2.data.toList : Nat)], .int .i64 (prF s1.data.toList s2.data.toList)]) ∧ Below w.heap.size w w' := by
  have P1 := Lib.hid (fun W => parse_any s1 hs1 W)
  have P2 := Lib.hid (fun W => parse_any s2 hs2 W)
  unfold prN prD prF
  by_cases h1 : parseF s1.data.toList = 0
  · by_cases h2 : parseF s2.data.toList = 0
    · cases h3 : okR (parseV s1.data.toList) (parseV s2.data.toList)
      · rw [if_neg (fun x => by simp at x), if_neg (fun x => by simp at x), if_pos ⟨h1, h2⟩, if_neg (by simp)]
        exact parse_out s s1 s2 b _ _ _ _ (bne_of h1) (bne_of h2) h3 w HC P1 P2
      · rw [if_pos ⟨h1, h2, rfl⟩, if_pos ⟨h1, h2, rfl⟩, if_pos ⟨h1, h2⟩, if_pos rfl]
        exact parse_in s s1 s2 b _ _ _ _ (bne_of h1) (bne_of h2) h3 w HC P1 P2
    · rw [if_neg (fun x => h2 x.2.1), if_neg (fun x => h2 x.2.1), if_neg (fun x => h2 x.2)]
      exact parse_bad2 s s1 s2 b _ _ _ _ (bne_of h1) (bne_not h2) w HC P1 P2
  · rw [if_neg (fun x => h1 x.1), if_neg (fun x => h1 x.1), if_neg (fun x => h1 x.1)]
    exact parse_bad1 s s1 s2 b _ _ _ _ (bne_not h1) w HC P1 P2
/-- MaxLen lies below the world's end and holds some int: strings.Cut's contract asks it, at a separator of one byte no call reads it. -/
def MaxI (w : World) : Prop := ∃ m : Int, w.cell? ⟨2, 0, none⟩ = some (.int .i64 m)
theorem maxI_of {W : World} (h : W.ShapedOpen Tryd.prog) : MaxI W :=
  cell_of_shapedOpen_int (g := 2) (zero := #[.int .i64 0]) (t := 3) h (of_decide_eq_true (by kernel_rfl)) (by kernel_rfl) rfl (by kernel_rfl) (by kernel_rfl) Tryd.underlying3
theorem maxI_on {W w1 : World} (hb : Below W.heap.size W w1) (h : MaxI W) : MaxI w1 := by
  obtain ⟨m, hm⟩ := h
  exact ⟨m, cell_on hb hm⟩
def before (l : List UInt8) : List UInt8 := (Lib.cut l [47]).1
def behind (l : List UInt8) : List UInt8 := (Lib.cut l [47]).2.1
theorem cut_len (l : List UInt8) : (before l).length ≤ l.length ∧ (behind l).length ≤ l.length := by
  unfold before behind Lib.cut
  split
  · simp
    omega
  · simp
theorem size_mk (l : List UInt8) : (ByteArray.mk l.toArray).size = l.length := by simp [ByteArray.size]
theorem prat_parse (s : ByteArray) (hs : s.size ≤ 100) (w : World) (hm : MaxI w) :
    Calls Tryd.prog 8 #[.string s] w fun e w' => e = .returned (.tuple #[.agg #[.int .u64 (prN (before s.data.toList) (behind s.data.toList) : Nat), .int .u64 (prD (before s.data.toList) (behind s.data.toList) : Nat)], .int .i64 (prF (before s.data.toList) (behind s.data.toList))]) ∧ Below w.heap.size w w' := by
  obtain ⟨l1, l2⟩ := cut_len s.data.toList
  have e : s.size = s.data.toList.length := by simp
  refine prat_pieces s ⟨(before s.data.toList).toArray⟩ ⟨(behind s.data.toList).toArray⟩ (Lib.cut s.data.toList [47]).2.2 ?_ ?_ w (Lib.hid fun W hW => ?_)
  · rw [size_mk]; unfold maxLen; omega
  · rw [size_mk]; unfold maxLen; omega
  · obtain ⟨m, hm⟩ := maxI_on hW hm
    exact Tryd.strings_Cut s ⟨#[47]⟩ m W (by omega) hm
