import Derived.Test.YtlecidgfchaonaaDoorRows
import Derived.Test.YtlecidgfchaonaaDoorShelf
import Derived.WalkKit
import Derived.ProofKit
import Derived.OpenShut
import Derived.Laws.Externs
import Derived.Shelf.Spec.BitsCarry
import Derived.Lib.Hide
import Derived.Lib.ItoaNum
import Derived.WalkLawsBesides
import Derived.WalkSpells
import Derived.Lib.ItoaMem
import Derived.WalkSmall
import Derived.Deep.RegionWith
import Derived.Great.BuildSlice
import Derived.Lib.ItoaLen
set_option linter.unusedVariables false
namespace Go.Proofs.YtlecidgfchaonaaDoor
open Go.RowKit
def cutV (n : Nat) : Nat := if n < 18446744073709551616 then n else 0
def cutF (n : Nat) : Int := if n < 18446744073709551616 then 0 else 6
def isD (c : UInt8) : Bool := decide (48 ≤ c.toNat) && decide (c.toNat ≤ 57)
def decV (l : List UInt8) : Nat := l.foldl (fun n c => n * 10 + (c.toNat - 48)) 0
def lead (l : List UInt8) : Bool := l.isEmpty || (l.head? == some 48 && decide (1 < l.length))
def parseV (l : List UInt8) : Nat := if lead l then 0 else if l.all isD then cutV (decV l) else 0
def parseF (l : List UInt8) : Int := if lead l then 3 else if l.all isD then cutF (decV l) else 3
theorem decV_snoc (l : List UInt8) (c : UInt8) : decV (l ++ [c]) = decV l * 10 + (c.toNat - 48) := by simp [decV]
theorem all_snoc (l : List UInt8) (c : UInt8) : (l ++ [c]).all isD = (l.all isD && isD c) := by simp
theorem take_snoc (s : ByteArray) (k : Nat) (h : k < s.size) : s.data.toList.take (k + 1) = s.data.toList.take k ++ [s[k]] := by
  rw [List.take_succ_eq_append_getElem (by simpa using h)]; rfl


theorem cutV_lt (n : Nat) : cutV n < 18446744073709551616 := by unfold cutV; split <;> omega
theorem cutV_no {n : Nat} (h : ¬ n < 18446744073709551616) : cutV n = 0 := if_neg h
theorem cutF_no {n : Nat} (h : ¬ n < 18446744073709551616) : cutF n = 6 := if_neg h
theorem cutV_yes {n : Nat} (h : n < 18446744073709551616) : cutV n = n := if_pos h
theorem cutF_yes {n : Nat} (h : n < 18446744073709551616) : cutF n = 0 := if_pos h
theorem isD_iff (c : UInt8) : isD c = true ↔ 48 ≤ c.toNat ∧ c.toNat ≤ 57 := by simp [isD]
theorem ret_pair {a a' b b' : Int} (h : a = a') (h' : b = b') : Ending.returned (.tuple #[.int .u64 a, .int .i64 b]) = Ending.returned (.tuple #[.int .u64 a', .int .i64 b']) := by rw [h, h']
theorem int_same {k : IntKind} {a a' : Int} (h : a = a') : Value.int k a = .int k a' := by rw [h]
theorem parse_bad (l : List UInt8) (h : l.all isD = false) (hl : lead l = false) : parseV l = 0 ∧ parseF l = 3 := by
  unfold parseV parseF; simp [h, hl]
theorem parse_good (l : List UInt8) (h : l.all isD = true) (hl : lead l = false) : parseV l = cutV (decV l) ∧ parseF l = cutF (decV l) := by
  unfold parseV parseF; simp [h, hl]
/-- What holds of the first k bytes. -/
def Dig (l : List UInt8) (k n : Nat) : Prop := n = decV (l.take k) ∧ (l.take k).all isD = true
theorem Dig.zero (l : List UInt8) : Dig l 0 0 := ⟨rfl, rfl⟩
theorem Dig.step {s : ByteArray} {k n : Nat} (h : Dig s.data.toList k n) (hk : k < s.size) (h1 : 48 ≤ s[k].toNat) (h2 : s[k].toNat ≤ 57) : Dig s.data.toList (k + 1) (n * 10 + (s[k].toNat - 48)) := by
  refine ⟨?_, ?_⟩
  · rw [take_snoc s k hk, decV_snoc, ← h.1]
  · rw [take_snoc s k hk, all_snoc, h.2, (isD_iff _).2 ⟨h1, h2⟩]; rfl
theorem all_bad {s : ByteArray} {k : Nat} (hk : k < s.size) (h : ¬ (48 ≤ s[k].toNat ∧ s[k].toNat ≤ 57)) : s.data.toList.all isD = false := by
  rw [List.all_eq_false]
  refine ⟨s[k], ?_, fun x => h ((isD_iff _).1 x)⟩
  have : s.data.toList[k]'(by simpa using hk) = s[k] := rfl
  rw [← this]; exact List.getElem_mem _
theorem Dig.done {s : ByteArray} {n : Nat} (h : Dig s.data.toList s.size n) : n = decV s.data.toList ∧ s.data.toList.all isD = true := by
  have e : s.data.toList.take s.size = s.data.toList := List.take_of_length_le (by simp)
  unfold Dig at h
  rwa [e] at h

theorem Dig.keep {l : List UInt8} {k n : Nat} (h : Dig l k n) (m : Nat) (hm : n = m) : Dig l k m := hm ▸ h
theorem cut_step (n d : Nat) (hn : n < 18446744073709551616) : cutV n * 10 + d = n * 10 + d := by rw [cutV_yes hn]
theorem cut_over (n d : Nat) (hn : ¬ n < 18446744073709551616) : cutV (n * 10 + d) = cutV n ∧ cutF (n * 10 + d) = cutF n := by
  have h : ¬ n * 10 + d < 18446744073709551616 := by omega
  rw [cutV_no hn, cutV_no h, cutF_no hn, cutF_no h]; exact ⟨rfl, rfl⟩
theorem lead_no {s : ByteArray} (h : lead s.data.toList = false) : s.toList.isEmpty = false ∧ ∃ h0 : 0 < s.size, ∃ z : Bool, (((s[0]'h0).toNat : Int) == 48) = z ∧ (z = true → decide (1 < (s.size : Int)) = false) := by
  have hsz : s.size = s.data.toList.length := by simp
  have hne : s.data.toList ≠ [] := by intro e; simp [lead, e] at h
  have h0 : 0 < s.size := by rw [hsz]; exact List.length_pos_iff.2 hne
  refine ⟨by rw [ByteArray.toList_eq]; simpa using hne, h0, _, rfl, fun hz => ?_⟩
  have e0 : s.data.toList.head? = some (s[0]'h0) := by
    rw [List.head?_eq_getElem?, List.getElem?_eq_getElem (by omega)]; rfl
  have hz' : s[0]'h0 = 48 := by
    have : (s[0]'h0).toNat = 48 := by have := of_decide_eq_true (p := ((s[0]'h0).toNat : Int) = 48) (by simpa using hz); omega
    exact UInt8.toNat_inj.1 this
  simp only [lead, e0, hz', beq_self_eq_true, Bool.true_and, Bool.or_eq_false_iff] at h
  have := of_decide_eq_false h.2
  exact decide_eq_false (by omega)
theorem cut_over' (n d : Nat) (h : ¬ n * 10 < 18446744073709551616) : cutV (n * 10 + d) = 0 ∧ cutF (n * 10 + d) = cutF (n * 10) := by
  have h' : ¬ n * 10 + d < 18446744073709551616 := by omega
  rw [cutV_no h', cutF_no h', cutF_no h]; exact ⟨rfl, rfl⟩
def subV (a b : Nat) : Nat := a - b
def subF (a b : Nat) : Int := if a < b then 6 else 0
def chkV (n b : Nat) : Nat := if b = 0 then n else 0
def chkF (b : Nat) : Int := if b = 0 then 0 else 6
def minV (a b : Nat) : Nat := if a ≤ b then a else b
def modV (i n : Int) : Int := if n < 1 then 0 else if i.tmod n < 0 then wrap64 (i.tmod n + n) else i.tmod n

theorem run25 (x y : Nat) (hx : x < 18446744073709551616) (hy : y < 18446744073709551616) (w : World) :
    (callFunc 76 #[.int .u64 x, .int .u64 y, .int .u64 0]).run Tryd.prog w = .ok (.value (.tuple #[.int .u64 (((x + y) % 18446744073709551616 : Nat) : Int), .int .u64 (((x + y) / 18446744073709551616 : Nat) : Int)])) w := by
  have h := run_add64 (P := Tryd.prog) x y 0 (by omega) (by omega) (by omega) (by omega) (w := w)
  rw [run_callFunc_extern Tryd.func76 (by kernel_rfl) (by kernel_rfl) (by kernel_rfl) (e := add64Entry) (by kernel_rfl)]
  have h' : (add64Entry #[.int .u64 x, .int .u64 y, .int .u64 0]).run Tryd.prog w = _ := h
  rw [h']
  rfl
theorem checked_any (n b : Nat) (w : World) :
    Calls Tryd.prog 75 #[.int .u64 n, .int .u64 b] w fun e w' => e = .returned (.tuple #[.int .u64 (chkV n b : Nat), .int .i64 (chkF b)]) ∧ w' = w := by
  by_cases hb : b = 0
  · subst hb
    go_enter Tryd.func75, Tryd.ntmps75
    go_wp2
    go_ret2
    exact ⟨rfl, rfl⟩
  · have e1 : chkV n b = 0 := if_neg hb
    have e2 : chkF b = 6 := if_neg hb
    rw [e1, e2]
    clear e1 e2
    go_enter Tryd.func75, Tryd.ntmps75
    go_wp2
    go_ret2
    exact ⟨rfl, rfl⟩
theorem chk_add (a b : Nat) (ha : a < 18446744073709551616) (hb : b < 18446744073709551616) : chkV ((a + b) % 18446744073709551616) ((a + b) / 18446744073709551616) = cutV (a + b) ∧ chkF ((a + b) / 18446744073709551616) = cutF (a + b) := by
  unfold chkV chkF cutV cutF
  split <;> split <;> first | omega | (constructor <;> omega)
theorem chk_sub (a b : Nat) (ha : a < 18446744073709551616) (hb : b < 18446744073709551616) : chkV ((a + 18446744073709551616 - b) % 18446744073709551616) (if a < b then 1 else 0) = subV a b ∧ chkF (if a < b then 1 else 0) = subF a b := by
  unfold chkV chkF subV subF
  by_cases h : a < b
  · rw [if_pos h, if_pos h]; refine ⟨?_, rfl⟩; rw [if_neg (by decide)]; omega
  · rw [if_neg h, if_neg h]; refine ⟨?_, rfl⟩; rw [if_pos rfl]; omega
theorem chk_mul (a b : Nat) : chkV ((a * b) % 18446744073709551616) ((a * b) / 18446744073709551616) = cutV (a * b) ∧ chkF ((a * b) / 18446744073709551616) = cutF (a * b) := by
  unfold chkV chkF cutV cutF
  generalize a * b = m
  split <;> split <;> first | omega | (constructor <;> omega)

theorem add_any (a b : Nat) (ha : a < 18446744073709551616) (hb : b < 18446744073709551616) (w : World) :
    Calls Tryd.prog 68 #[.int .u64 a, .int .u64 b] w fun e w' => e = .returned (.tuple #[.int .u64 (cutV (a + b) : Nat), .int .i64 (cutF (a + b))]) ∧ w' = w := by
  have h := run25 a b ha hb
  obtain ⟨e1, e2⟩ := chk_add a b ha hb
  rw [← e1, ← e2]
  clear e1 e2
  generalize (a + b) % 18446744073709551616 = r at *
  generalize (a + b) / 18446744073709551616 = c at *
  go_enter Tryd.func68, Tryd.ntmps68
  go_wp2_with (go_at_call 75; refine (checked_any _ _ _).mono ?_; rintro e w' ⟨rfl, rfl⟩)
  go_ret2
  exact ⟨rfl, rfl⟩

theorem mul_any (a b : Nat) (ha : a < 18446744073709551616) (hb : b < 18446744073709551616) (w : World) :
    Calls Tryd.prog 67 #[.int .u64 a, .int .u64 b] w fun e w' => e = .returned (.tuple #[.int .u64 (cutV (a * b) : Nat), .int .i64 (cutF (a * b))]) ∧ w' = w := by
  have h := Tryd.bits_Mul64 a b ha hb
  obtain ⟨e1, e2⟩ := chk_mul a b
  rw [← e1, ← e2]
  clear e1 e2
  generalize (a * b) % 18446744073709551616 = r at *
  generalize (a * b) / 18446744073709551616 = c at *
  have H := Lib.hid h
  clear h
  go_enter Tryd.func67, Tryd.ntmps67
  go_wp2_with (first
    | (go_at_call 74; refine (H.out _).mono ?_; rintro e w' ⟨rfl, rfl⟩)
    | (go_at_call 75; refine (checked_any _ _ _).mono ?_; rintro e w' ⟨rfl, rfl⟩))
  go_ret2
  exact ⟨rfl, rfl⟩

theorem radd_any (a b : Nat) (ha : a < 18446744073709551616) (hb : b < 18446744073709551616) (w : World) :
    Calls Tryd.prog 62 #[.int .u64 a, .int .u64 b] w fun e w' => e = .returned (.tuple #[.int .u64 (cutV (a + b) : Nat), .int .i64 (cutF (a + b))]) ∧ w' = w := by
  by_cases h : a + b < 18446744073709551616
  · have e1 : cutV (a + b) = a + b := if_pos h
    have e2 : cutF (a + b) = 0 := if_pos h
    rw [e1, e2]
    clear e1 e2
    go_enter Tryd.func62, Tryd.ntmps62
    go_wp2
    go_ret2
    exact ⟨rfl, rfl⟩
  · have e1 : cutV (a + b) = 0 := if_neg h
    have e2 : cutF (a + b) = 6 := if_neg h
    rw [e1, e2]
    clear e1 e2
    go_enter Tryd.func62, Tryd.ntmps62
    go_wp2
    go_ret2
    exact ⟨rfl, rfl⟩
theorem rmul_any (a b : Nat) (ha : a < 18446744073709551616) (hb : b < 18446744073709551616) (w : World) :
    Calls Tryd.prog 61 #[.int .u64 a, .int .u64 b] w fun e w' => e = .returned (.tuple #[.int .u64 (cutV (a * b) : Nat), .int .i64 (cutF (a * b))]) ∧ w' = w := by
  by_cases h0 : b = 0
  · subst h0
    go_enter Tryd.func61, Tryd.ntmps61
    go_wp2
    go_ret2
    exact ⟨rfl, rfl⟩
  · have hq : (a * b < 18446744073709551616) ↔ a ≤ 18446744073709551615 / b := by
      rw [Nat.le_div_iff_mul_le (by omega)]; omega
    have hdiv : (18446744073709551615 : Int) / (b : Int) = ((18446744073709551615 / b : Nat) : Int) := by simp
    have hqb : 18446744073709551615 / b ≤ 18446744073709551615 := Nat.div_le_self _ _
    have hb0 : ((b : Int) == 0) = false := by simpa using h0
    have hb1 : ((b : Int) != 0) = true := by simpa using h0
    by_cases h : a * b < 18446744073709551616
    · have e1 : cutV (a * b) = a * b := if_pos h
      have e2 : cutF (a * b) = 0 := if_pos h
      have ew : IntKind.u64.wrap ((a : Int) * b) = ((a * b : Nat) : Int) := by rw [← Int.natCast_mul]; exact IntWalk.u64_in _ ⟨by omega, by omega⟩
      rw [e1, e2]
      have hle := hq.1 h
      generalize 18446744073709551615 / b = q at *
      have hd : decide (q < a) = false := by simpa using hle
      clear e1 e2 hq
      go_enter Tryd.func61, Tryd.ntmps61
      go_wp2
      go_ret2
      exact ⟨rfl, rfl⟩
    · have e1 : cutV (a * b) = 0 := if_neg h
      have e2 : cutF (a * b) = 6 := if_neg h
      rw [e1, e2]
      have hle : ¬ a ≤ _ := fun x => h (hq.2 x)
      generalize 18446744073709551615 / b = q at *
      have hd : decide (q < a) = true := by simpa using hle
      clear e1 e2 hq
      go_enter Tryd.func61, Tryd.ntmps61
      go_wp2
      go_ret2
      exact ⟨rfl, rfl⟩
theorem push_any (n : Nat) (d : Int) (hn : n < 18446744073709551616) (h0 : 0 ≤ d) (hd : d ≤ 9) (w : World) :
    Calls Tryd.prog 60 #[.int .u64 n, .int .u64 d] w fun e w' => e = .returned (.tuple #[.int .u64 (cutV (n * 10 + d.toNat) : Nat), .int .i64 (cutF (n * 10 + d.toNat))]) ∧ w' = w := by
  obtain ⟨d, rfl⟩ : ∃ m : Nat, d = m := ⟨d.toNat, by omega⟩
  rw [Int.toNat_natCast]
  have hm := mul_any n 10 hn (by omega)
  have ha := fun (x : Nat) (hx : x < 18446744073709551616) => add_any x d hx (by omega)
  have HM := Lib.hid hm
  have HA := Lib.hid ha
  clear hm ha
  by_cases h : n * 10 < 18446744073709551616
  · have e1 : cutV (n * 10) = n * 10 := cutV_yes h
    have e2 : (cutF (n * 10) != 0) = false := by rw [cutF_yes h]; rfl
    have E1 := Lib.hid e1
    clear e1
    have hlt := cutV_lt (n * 10)
    go_enter Tryd.func60, Tryd.ntmps60
    go_wp2_with (first
      | (go_at_call 67; refine (HM.out _).mono ?_; rintro e w' ⟨rfl, rfl⟩)
      | (go_at_call 68; refine (HA.out _ hlt _).mono ?_; rintro e w' ⟨rfl, rfl⟩))
    go_ret2
    exact ⟨ret_pair (by rw [E1.out]) (by rw [E1.out]), rfl⟩
  · have e1 : cutV (n * 10) = 0 := cutV_no h
    have e2 : (cutF (n * 10) != 0) = true := by rw [cutF_no h]; rfl
    have e3 := cut_over' n d h
    have E3 := Lib.hid e3
    clear e1 e3
    go_enter Tryd.func60, Tryd.ntmps60
    go_wp2_with (first
      | (go_at_call 67; refine (HM.out _).mono ?_; rintro e w' ⟨rfl, rfl⟩))
    go_ret2
    exact ⟨ret_pair (by rw [E3.out.1]; rfl) (by rw [E3.out.2]), rfl⟩
set_option maxHeartbeats 1000000 in
theorem parse_num (s : ByteArray) (w : World) (hs : s.size ≤ maxLen) (hl : lead s.data.toList = false) :
    Calls Tryd.prog 48 #[.string s] w fun e w' => e = .returned (.tuple #[.int .u64 (parseV s.data.toList : Nat), .int .i64 (parseF s.data.toList)]) ∧ w' = w := by
  unfold maxLen at hs
  obtain ⟨hne, h0, z, hz, hz1⟩ := lead_no hl
  have HL := Lib.hid hl
  have hcase : (((s[0]'h0).toNat : Int) == 48) = false ∨ ((((s[0]'h0).toNat : Int) == 48) = true ∧ decide (1 < (s.size : Int)) = false) := by
    cases z with
    | false => exact Or.inl hz
    | true => exact Or.inr ⟨hz, hz1 rfl⟩
  clear hl hz hz1
  rcases hcase with hz | ⟨hz, hs1⟩
  all_goals
    go_enter Tryd.func48, Tryd.ntmps48
    go_wp2
    go_step3
    go_wp2
    go_step3
    go_wp2
    go_loop [4, 5, 22] (fun v f i => ∃ k n : Nat, k ≤ s.size ∧ i = .int .i64 k ∧ v = .int .u64 (cutV n : Nat) ∧ f = .int .i64 (cutF n) ∧ Hid (Dig s.data.toList k n)) (fun _ _ i => s.size - (intOf i).toNat)
    case atStart => exact ⟨0, 0, Nat.zero_le _, rfl, rfl, rfl, Dig.zero _⟩
    case round =>
      obtain ⟨k, n, hk, rfl, rfl, rfl, HD⟩ := hrel
      by_cases hlt : k < s.size
      · by_cases hc : 48 ≤ s[k].toNat ∧ s[k].toNat ≤ 57
        · obtain ⟨hc1, hc2⟩ := hc
          by_cases hn : n < 18446744073709551616
          · have hf : (cutF n != 0) = false := by rw [cutF_yes hn]; rfl
            have hcv := cutV_lt n
            go_wp2_with (go_at_call 60; refine (push_any _ _ (by assumption) (by omega) (by omega) _).mono ?_; rintro e w' ⟨rfl, rfl⟩)
            go_round
            case rel => exact ⟨k + 1, n * 10 + (s[k].toNat - 48), by omega, by go_num, by rw [cut_step _ _ hn], by rw [cut_step _ _ hn], HD.out.step hlt hc1 hc2⟩
            case measure => simp [intOf]; omega
          · have hf : (cutF n != 0) = true := by rw [cutF_no hn]; rfl
            go_wp2
            go_round
            case rel => exact ⟨k + 1, n * 10 + (s[k].toNat - 48), by omega, by go_num, by rw [(cut_over _ _ hn).1], by rw [(cut_over _ _ hn).2], HD.out.step hlt hc1 hc2⟩
            case measure => simp [intOf]; omega
        · have HB := Lib.hid (parse_bad _ (all_bad hlt hc) HL.out)
          go_wp2
          all_goals go_ret2
          all_goals exact ⟨ret_pair (by rw [HB.out.1]; rfl) HB.out.2.symm, rfl⟩
      · obtain rfl : k = s.size := by omega
        have HG := Lib.hid (parse_good _ HD.out.done.2 HL.out)
        have HN := Lib.hid HD.out.done.1
        go_wp2
        go_ret2
        exact ⟨ret_pair (by rw [HG.out.1, ← HN.out]) (by rw [HG.out.2, ← HN.out]), rfl⟩
theorem lead_yes {s : ByteArray} (h : lead s.data.toList = true) (h0 : s.size ≠ 0) : s.toList.isEmpty = false ∧ 1 < s.size ∧ ∃ h0 : 0 < s.size, (((s[0]'h0).toNat : Int) == 48) = true := by
  have hsz : s.size = s.data.toList.length := by simp
  have hne : s.data.toList ≠ [] := by intro e; rw [e] at hsz; exact h0 hsz
  have h0' : 0 < s.size := by omega
  have e0 : s.data.toList.head? = some (s[0]'h0') := by
    rw [List.head?_eq_getElem?, List.getElem?_eq_getElem (by omega)]; rfl
  have hie : s.data.toList.isEmpty = false := by simpa using hne
  simp only [lead, e0, hie, Bool.false_or, Bool.and_eq_true, decide_eq_true_eq] at h
  refine ⟨by rw [ByteArray.toList_eq]; exact hie, by omega, h0', ?_⟩
  have h1 : s[0]'h0' = 48 := by simpa using h.1
  rw [h1]; rfl
theorem parse_lead (s : ByteArray) (w : World) (hs : s.size ≤ maxLen) (hl : lead s.data.toList = true) :
    Calls Tryd.prog 48 #[.string s] w fun e w' => e = .returned (.tuple #[.int .u64 0, .int .i64 3]) ∧ w' = w := by
  unfold maxLen at hs
  by_cases h0 : s.size = 0
  · obtain rfl : s = ⟨#[]⟩ := by
      cases s with | mk d => congr; exact Array.eq_empty_of_size_eq_zero h0
    clear hl
    go_enter Tryd.func48, Tryd.ntmps48
    go_wp2
    go_step3
    go_wp2
    rw [Exit.noGoto_ret]
    go_ret2
    exact ⟨rfl, rfl⟩
  · obtain ⟨hne, h1, h0', hz⟩ := lead_yes hl h0
    clear hl
    go_enter Tryd.func48, Tryd.ntmps48
    go_wp2
    go_step3
    go_wp2
    rw [Exit.noGoto_ret]
    go_ret2
    exact ⟨rfl, rfl⟩
theorem parse_any (s : ByteArray) (hs : s.size ≤ maxLen) (w : World) :
    Calls Tryd.prog 48 #[.string s] w fun e w' => e = .returned (.tuple #[.int .u64 (parseV s.data.toList : Nat), .int .i64 (parseF s.data.toList)]) ∧ w' = w := by
  by_cases hl : lead s.data.toList = true
  · have e1 : parseV s.data.toList = 0 := by unfold parseV; rw [if_pos hl]
    have e2 : parseF s.data.toList = 3 := by unfold parseF; rw [if_pos hl]
    rw [e1, e2]
    exact parse_lead s w hs hl
  · exact parse_num s w hs (by simpa using hl)


end Go.Proofs.YtlecidgfchaonaaDoor
namespace Go.Proofs.YtlecidgfchaonaaDoor
open Go.RowKit
theorem foldl_ge (l : List UInt8) : ∀ n : Nat, n ≤ l.foldl (fun n c => n * 10 + (c.toNat - 48)) n := by
  induction l with
  | nil => intro n; exact Nat.le_refl _
  | cons c l ih => intro n; exact Nat.le_trans (show n ≤ n * 10 + (c.toNat - 48) by omega) (ih _)
theorem decV_append (a b : List UInt8) : decV a ≤ decV (a ++ b) := by
  unfold decV; rw [List.foldl_append]; exact foldl_ge _ _
theorem Dig.below {l : List UInt8} {k n : Nat} (h : Dig l k n) : n ≤ decV l := by
  rw [h.1]
  have := decV_append (l.take k) (l.drop k)
  rwa [List.take_append_drop] at this
/-- The first k bytes are digits. -/
def Dgs (l : List UInt8) (k : Nat) : Prop := (l.take k).all isD = true
theorem Dgs.zero (l : List UInt8) : Dgs l 0 := rfl
theorem Dgs.step {s : ByteArray} {k : Nat} (h : Dgs s.data.toList k) (hk : k < s.size) (h1 : 48 ≤ s[k].toNat) (h2 : s[k].toNat ≤ 57) : Dgs s.data.toList (k + 1) := by
  unfold Dgs at *
  rw [take_snoc s k hk, all_snoc, h, (isD_iff _).2 ⟨h1, h2⟩]; rfl
theorem Dgs.done {s : ByteArray} (h : Dgs s.data.toList s.size) : s.data.toList.all isD = true := by
  have e : s.data.toList.take s.size = s.data.toList := List.take_of_length_le (by simp)
  unfold Dgs at h
  rwa [e] at h
theorem all_at {s : ByteArray} (h : s.data.toList.all isD = true) (k : Nat) (hk : k < s.size) : 48 ≤ s[k].toNat ∧ s[k].toNat ≤ 57 := by
  rw [List.all_eq_true] at h
  exact (isD_iff _).1 (h _ (by
    have : s.data.toList[k]'(by simpa using hk) = s[k] := rfl
    rw [← this]; exact List.getElem_mem _))
theorem rmul10 (n : Nat) (hn : n < 18446744073709551616) (w : World) :
    Calls Tryd.prog 61 #[.int .u64 n, .int .u64 10] w fun e w' => e = .returned (.tuple #[.int .u64 (cutV (n * 10) : Nat), .int .i64 (cutF (n * 10))]) ∧ w' = w :=
  rmul_any n 10 hn (by omega) w
theorem radd_int (n : Nat) (d : Int) (hn : n < 18446744073709551616) (h0 : 0 ≤ d) (hd : d ≤ 9) (w : World) :
    Calls Tryd.prog 62 #[.int .u64 n, .int .u64 d] w fun e w' => e = .returned (.tuple #[.int .u64 (cutV (n + d.toNat) : Nat), .int .i64 (cutF (n + d.toNat))]) ∧ w' = w := by
  obtain ⟨d, rfl⟩ : ∃ m : Nat, d = m := ⟨d.toNat, by omega⟩
  rw [Int.toNat_natCast]
  exact radd_any n d hn (by omega) w

set_option maxHeartbeats 1000000 in
theorem rparse_num (s : ByteArray) (w : World) (hs : s.size ≤ maxLen) (hl : lead s.data.toList = false) :
    Calls Tryd.prog 50 #[.string s] w fun e w' => e = .returned (.tuple #[.int .u64 (parseV s.data.toList : Nat), .int .i64 (parseF s.data.toList)]) ∧ w' = w := by
  unfold maxLen at hs
  obtain ⟨hne, h0, z, hz, hz1⟩ := lead_no hl
  have hb0 : ((s.size : Int) == 0) = false := by rw [beq_eq_false_iff_ne]; omega
  have HL := Lib.hid hl
  have hcase : (1 < s.size ∧ (((s[0]'h0).toNat : Int) == 48) = false) ∨ s.size ≤ 1 := by
    by_cases h1 : 1 < s.size
    · refine Or.inl ⟨h1, ?_⟩
      cases z with
      | false => exact hz
      | true => have := of_decide_eq_false (hz1 rfl); omega
    · exact Or.inr (by omega)
  clear hl hz hz1
  rcases hcase with ⟨h1, hz⟩ | h1
  all_goals
    go_enter Tryd.func50, Tryd.ntmps50
    go_wp2
    go_loop [4] (fun i => ∃ k : Nat, k ≤ s.size ∧ i = .int .i64 k ∧ Hid (Dgs s.data.toList k)) (fun i => s.size - (intOf i).toNat)
    case atStart => exact ⟨0, Nat.zero_le _, rfl, Dgs.zero _⟩
    case round =>
      obtain ⟨k, hk, rfl, HD⟩ := hrel
      by_cases hlt : k < s.size
      · by_cases hc : 48 ≤ s[k].toNat ∧ s[k].toNat ≤ 57
        · obtain ⟨hc1, hc2⟩ := hc
          go_wp2
          go_round
          case rel => exact ⟨k + 1, by omega, by go_num, HD.out.step hlt hc1 hc2⟩
          case measure => simp [intOf]; omega
        · have HB := Lib.hid (parse_bad _ (all_bad hlt hc) HL.out)
          go_wp2
          all_goals go_ret2
          all_goals exact ⟨ret_pair (by rw [HB.out.1]; rfl) HB.out.2.symm, rfl⟩
      · obtain rfl : k = s.size := by omega
        have HA := Lib.hid HD.out.done
        have HG := Lib.hid (parse_good _ HA.out HL.out)
        clear HD
        go_wp2
        go_loop [5, 6] (fun v i => ∃ k n : Nat, k ≤ s.size ∧ n < 18446744073709551616 ∧ i = .int .i64 k ∧ v = .int .u64 n ∧ Hid (Dig s.data.toList k n)) (fun _ i => s.size - (intOf i).toNat)
        case atStart => exact ⟨0, 0, Nat.zero_le _, by omega, rfl, rfl, Dig.zero _⟩
        case round =>
          obtain ⟨k, n, hk, hn, rfl, rfl, HD⟩ := hrel
          by_cases hlt : k < s.size
          · obtain ⟨hc1, hc2⟩ := all_at HA.out k hlt
            have HS := Lib.hid (HD.out.step hlt hc1 hc2)
            by_cases hm : n * 10 < 18446744073709551616
            · have e2 : (cutF (n * 10) != 0) = false := by rw [cutF_yes hm]; rfl
              have E1 := Lib.hid (cutV_yes hm)
              have hcv := cutV_lt (n * 10)
              by_cases ha : n * 10 + (s[k].toNat - 48) < 18446744073709551616
              · have e3 : (cutF (cutV (n * 10) + (s[k].toNat - 48)) != 0) = false := by rw [E1.out, cutF_yes ha]; rfl
                have E4 := Lib.hid (show cutV (cutV (n * 10) + (s[k].toNat - 48)) = n * 10 + (s[k].toNat - 48) by rw [E1.out, cutV_yes ha])
                go_wp2_with (first
                  | (go_at_call 61; refine (rmul10 _ (by assumption) _).mono ?_; rintro e w' ⟨rfl, rfl⟩)
                  | (go_at_call 62; refine (radd_int _ _ (by assumption) (by omega) (by omega) _).mono ?_; rintro e w' ⟨rfl, rfl⟩))
                go_round
                case rel => exact ⟨k + 1, n * 10 + (s[k].toNat - 48), by omega, by assumption, by go_num, by rw [E4.out], HS.out⟩
                case measure => simp [intOf]; omega
              · have hno := Nat.lt_of_lt_of_le (Nat.not_lt.1 ha) (Nat.le_refl _)
                have e3 : (cutF (cutV (n * 10) + (s[k].toNat - 48)) != 0) = true := by rw [E1.out, cutF_no ha]; rfl
                have e4 : cutF (cutV (n * 10) + (s[k].toNat - 48)) = 6 := by rw [E1.out, cutF_no ha]
                have E4 := Lib.hid e4
                have HB := Lib.hid (show ¬ decV s.data.toList < 18446744073709551616 from fun x => ha (Nat.lt_of_le_of_lt HS.out.below x))
                clear e4
                go_wp2_with (first
                  | (go_at_call 61; refine (rmul10 _ (by assumption) _).mono ?_; rintro e w' ⟨rfl, rfl⟩)
                  | (go_at_call 62; refine (radd_int _ _ (by assumption) (by omega) (by omega) _).mono ?_; rintro e w' ⟨rfl, rfl⟩))
                go_ret2
                exact ⟨ret_pair (by rw [HG.out.1, cutV_no HB.out]; rfl) (by rw [HG.out.2, cutF_no HB.out, E4.out]), rfl⟩
            · have e2 : (cutF (n * 10) != 0) = true := by rw [cutF_no hm]; rfl
              have E2 := Lib.hid (cutF_no hm)
              have HB := Lib.hid (show ¬ decV s.data.toList < 18446744073709551616 from fun x => by have := HS.out.below; omega)
              go_wp2_with (first
                  | (go_at_call 61; refine (rmul10 _ (by assumption) _).mono ?_; rintro e w' ⟨rfl, rfl⟩))
              go_ret2
              exact ⟨ret_pair (by rw [HG.out.1, cutV_no HB.out]; rfl) (by rw [HG.out.2, cutF_no HB.out, E2.out]), rfl⟩
          · obtain rfl : k = s.size := by omega
            have HN := Lib.hid HD.out.done.1
            have HV := Lib.hid (cutV_yes hn)
            have HF := Lib.hid (cutF_yes hn)
            go_wp2
            go_ret2
            exact ⟨ret_pair (by rw [HG.out.1, ← HN.out, HV.out]) (by rw [HG.out.2, ← HN.out, HF.out]), rfl⟩
theorem rparse_any (s : ByteArray) (hs : s.size ≤ maxLen) (w : World) :
    Calls Tryd.prog 50 #[.string s] w fun e w' => e = .returned (.tuple #[.int .u64 (parseV s.data.toList : Nat), .int .i64 (parseF s.data.toList)]) ∧ w' = w := by
  by_cases hl : lead s.data.toList = true
  · have e1 : parseV s.data.toList = 0 := by unfold parseV; rw [if_pos hl]
    have e2 : parseF s.data.toList = 3 := by unfold parseF; rw [if_pos hl]
    rw [e1, e2]
    unfold maxLen at hs
    by_cases h0 : s.size = 0
    · have hb0 : ((s.size : Int) == 0) = true := by rw [h0]; rfl
      clear hl e1 e2 h0
      go_enter Tryd.func50, Tryd.ntmps50
      go_wp2
      go_ret2
      exact ⟨rfl, rfl⟩
    · have hb0 : ((s.size : Int) == 0) = false := by rw [beq_eq_false_iff_ne]; omega
      obtain ⟨hne, h1, h0', hz⟩ := lead_yes hl h0
      clear hl e1 e2 h0
      go_enter Tryd.func50, Tryd.ntmps50
      go_wp2
      go_ret2
      exact ⟨rfl, rfl⟩
  · exact rparse_num s w hs (by simpa using hl)
def intV (l : List UInt8) (most : Int) : Int := if parseF l = 0 ∧ (parseV l : Int) ≤ most then (parseV l : Int) else 0
def intF (l : List UInt8) (most : Int) : Int := if parseF l = 0 then if (parseV l : Int) ≤ most then 0 else 2 else parseF l
end Go.Proofs.YtlecidgfchaonaaDoor
namespace Go.Proofs.YtlecidgfchaonaaDoor
open Go.RowKit Go.Sort Go.Lib

theorem holds_zero0 (w : World) (T : TypeId) (nd : Nat) (hs : nd ≤ 24) : Holds (fun (b : UInt8) => Value.int .u8 (b.toNat : Int)) (w.alloc (.cells zeros24 T)) w.heap.size 0 (Array.replicate nd (0 : UInt8)) := fun j hj => by
  have hj' : j < nd := by simpa using hj
  refine ⟨?_, World.frozen?_alloc_new _ _ _ _⟩
  rw [World.cell?_alloc_new, zeros24_at _ (by omega), getElem!_pos _ j hj]
  simp
theorem below_grow (w : World) (os : Array Obj) : Below w.heap.size w (grow w os) :=
  ⟨rfl, rfl, rfl, by rw [size_grow]; omega, fun k hk => heap_grow_old w os hk⟩
theorem below_row0 (w : World) (o : Obj) (dk : Array UInt8) (k : Nat) : Below w.heap.size w ((putRow (fun (b : UInt8) => Value.int .u8 (b.toNat : Int)) (w.alloc o) w.heap.size 0 dk).drewN k) := by
  rw [alloc_eq_grow]
  obtain ⟨os', _, e⟩ := putRow_grow_new (fun (b : UInt8) => Value.int .u8 (b.toNat : Int)) w #[o] w.heap.size 0 dk (Nat.le_refl _)
  rw [e]
  exact below_drewN (below_grow w os') k
def tabName : String := "internal/strconv.uint64pow10"
/-- The table of powers of ten lies as the program lays it. -/
def Pow10 (w : World) : Prop := TabIs Tryd.prog w "internal/strconv.uint64pow10" .u64 pow10Tab

theorem fmtu_small (i : Nat) (hi : i < 100) (w : World) :
    Calls Tryd.prog 65 #[.int .u64 i, .int .i64 10] w fun e w' => e = .returned (.string ⟨(decDigits i).toArray⟩) ∧ w' = w := by
  go_enter Tryd.func65, Tryd.ntmps65
  go_wp2_with (go_at_call 70; refine (Tryd.internal_strconv_small i hi _).mono ?_; rintro e w' ⟨rfl, rfl⟩)
  go_ret
  exact ⟨rfl, rfl⟩
set_option maxHeartbeats 1600000 in
set_option maxRecDepth 100000 in
theorem fmtu_big (u : Nat) (h : ¬ u < 100) (hu64 : u < 18446744073709551616) (w : World) (htab : Pow10 w) :
    Calls Tryd.prog 65 #[.int .u64 u, .int .i64 10] w fun e w' => e = .returned (.string ⟨(decDigits u).toArray⟩) ∧ Below w.heap.size w w' := by
  have hu1 : 1 ≤ u := by omega
  have hnd20 : nDigits u ≤ 20 := by have := numDigits_eq u hu1 hu64; split at this <;> omega
  have hb3 : nDigits u ≤ 23 := by omega
  have hal : Tryd.prog.arrayLen 98 = 24 := by kernel_rfl
  have hsl1 : ∀ W, (Instr.sliceAt 98 (.pointer (some ⟨w.heap.size, 0, none⟩)) none (some (.int .i64 (nDigits u : Int))) none).run Tryd.prog W = .ok (.slice (some ⟨w.heap.size, 0, none⟩) (nDigits u) 24) W := fun W => by
    rw [run_sliceAt_array_h W 98 ⟨w.heap.size, 0, none⟩ (by kernel_rfl) .i64 (nDigits u : Int) (by omega) (by rw [hal]; omega)]
    go_simp
  have hH0 := holds_zero0 w 98 (nDigits u) (by omega)
  have hfmt := Tryd.internal_strconv_formatBase10 w.heap.size 0 24 u (Array.replicate (nDigits u) 0) (w.alloc (.cells zeros24 98)) hH0 (by rw [Array.size_replicate]; exact lt_pow_nDigits u) hu64 (by rw [Array.size_replicate]; omega)
  rw [Array.size_replicate] at hfmt
  have HH0 := Lib.hid hH0
  have HT := Lib.hid htab
  have HF := Lib.hid hfmt
  clear hH0 hal htab hfmt
  go_enter Tryd.func65, Tryd.ntmps65
  go_wp2_with (first
    | (go_at_call 71; refine (Tryd.internal_strconv_numDigits u hu1 hu64 _ (tabIs_alloc HT.out _)).mono ?_; rintro e w' ⟨rfl, rfl⟩))
  refine HF.out.mono ?_
  rintro e w' ⟨rfl, k, v', dk, rfl, hF⟩
  have hcv : (convert 51 9 (.slice (some ⟨w.heap.size, 0, none⟩) (nDigits u) 24)).run Tryd.prog ((putRow (fun (b : UInt8) => Value.int .u8 (b.toNat : Int)) (w.alloc (.cells zeros24 98)) w.heap.size 0 dk).drewN k) = .ok (.string ⟨(decDigits u).toArray⟩) ((putRow (fun (b : UInt8) => Value.int .u8 (b.toNat : Int)) (w.alloc (.cells zeros24 98)) w.heap.size 0 dk).drewN k) := by
    have h := run_convert_bytes_back (P := Tryd.prog) ((putRow (fun (b : UInt8) => Value.int .u8 (b.toNat : Int)) (w.alloc (.cells zeros24 98)) w.heap.size 0 dk).drewN k) 51 9 5 ⟨w.heap.size, 0, none⟩ 24 (decDigits u) Tryd.underlying51 Tryd.underlying5 Tryd.underlying9 (fun j hj => by
      rw [row_is_numeral hF j hj, add_plain, World.cell?_drewN]
      exact cell?_putRow (fun (b : UInt8) => Value.int .u8 (b.toNat : Int)) _ w.heap.size 0 _ dk HH0.out (by rw [hF.size, Array.size_replicate]) j (by rw [hF.size]; rw [decDigits_length] at hj; exact hj))
    rw [decDigits_length] at h
    exact h
  go_wp2
  go_ret
  exact ⟨rfl, below_row0 w (.cells zeros24 98) dk k⟩

end Go.Proofs.YtlecidgfchaonaaDoor
namespace Go.Proofs.YtlecidgfchaonaaDoor
open Go.RowKit Go.Sort Go.Lib
theorem gTab : Tryd.prog.globalNamed "internal/strconv.uint64pow10" = some 1 := by kernel_rfl
theorem pow10_below {B : Nat} {w w' : World} (h : Pow10 w) (hb : Below B w w') (hB : 1 < B) : Pow10 w' :=
  var?_below hb gTab hB h
theorem size_pos {w : World} (h : Pow10 w) : 1 < w.heap.size := by
  unfold Pow10 Lib.TabIs World.var? at h
  rw [gTab] at h
  rcases Nat.lt_or_ge 1 w.heap.size with e | e
  · exact e
  · rw [Option.bind_some, Array.getElem?_eq_none e] at h; cases h
theorem fmt_any (u : Nat) (hu : u < 18446744073709551616) (w : World) (htab : Pow10 w) :
    Calls Tryd.prog 65 #[.int .u64 u, .int .i64 10] w fun e w' => e = .returned (.string ⟨(decDigits u).toArray⟩) ∧ Below w.heap.size w w' := by
  by_cases h : u < 100
  · exact (fmtu_small u h w).mono fun e w' ⟨he, hw⟩ => ⟨he, hw ▸ Below.refl _ _⟩
  · exact fmtu_big u h hu w htab
theorem print_any (u : Nat) (hu : u < 18446744073709551616) (w : World) (htab : Pow10 w) :
    Calls Tryd.prog 44 #[.int .u64 u] w fun e w' => e = .returned (.string ⟨(decDigits u).toArray⟩) ∧ Below w.heap.size w w' := by
  have HC := Lib.hid (fmt_any u hu w htab)
  clear htab
  go_enter Tryd.func44, Tryd.ntmps44
  go_wp2_with (first
    | go_at_call 56; go_in
    | (go_at_call 65; refine HC.out.mono ?_; rintro e w' ⟨rfl, hb⟩))
  go_ret
  exact ⟨rfl, hb⟩
theorem ret_str {l l' : List UInt8} (h : l = l') : Ending.returned (.string ⟨l.toArray⟩) = Ending.returned (.string ⟨l'.toArray⟩) := by rw [h]
theorem dd70 : decDigits 70 = [55, 48] := by rw [decDigits_two (by omega) (by omega)]; rfl
theorem print70 (w : World) :
    Calls Tryd.prog 44 #[.int .u64 70] w fun e w' => e = .returned (.string ⟨#[55, 48]⟩) ∧ w' = w := by
  have HC := Lib.hid (fmtu_small 70 (by omega) w)
  go_enter Tryd.func44, Tryd.ntmps44
  go_wp2_with (first
    | go_at_call 56; go_in
    | (go_at_call 65; refine HC.out.mono ?_; rintro e w' ⟨rfl, rfl⟩))
  go_ret
  exact ⟨ret_str dd70, rfl⟩

/-- 'string([]byte{x})' at a row of one byte. -/
theorem run_one (b : Nat) (x : UInt8) (W : World) (h : W.cell? ⟨b, 0, none⟩ = some (.int .u8 (x.toNat : Int))) :
    (convert 51 9 (.slice (some ⟨b, 0, none⟩) 1 1)).run Tryd.prog W = .ok (.string ⟨#[x]⟩) W := by
  have := run_convert_bytes_back (P := Tryd.prog) W 51 9 5 ⟨b, 0, none⟩ 1 [x] Tryd.underlying51 Tryd.underlying5 Tryd.underlying9 (fun j hj => by
    obtain rfl : j = 0 := by simp at hj; omega
    exact h)
  exact this
def dgb (d : Nat) : UInt8 := UInt8.ofNat (48 + d)
theorem dig_nat (d : Nat) (h : d < 10) : ((dgb d).toNat : Int) = 48 + (d : Int) := by
  unfold dgb
  rw [UInt8.toNat_ofNat']; omega
theorem bcell {W w1 : World} (hb : Below W.heap.size W w1) : (∀ b o, b < W.heap.size → w1.cell? ⟨b, o, none⟩ = W.cell? ⟨b, o, none⟩) ∧ (∀ b o, b < W.heap.size → w1.frozen? ⟨b, o, none⟩ = W.frozen? ⟨b, o, none⟩) :=
  ⟨fun b o h => hb.cell (p := ⟨b, o, none⟩) h, fun b o h => hb.frozen (p := ⟨b, o, none⟩) h⟩
theorem rprint_one (u : Nat) (hu : u < 10) (w : World) :
    Calls Tryd.prog 24 #[.int .u64 u] w fun e w' => e = .returned (.string ⟨(decDigits u).toArray⟩) ∧ Below w.heap.size w w' := by
  have hcv : ∀ W b, W.cell? ⟨b, 0, none⟩ = some (.int .u8 (48 + (u : Int))) → (convert 51 9 (.slice (some ⟨b, 0, none⟩) 1 1)).run Tryd.prog W = .ok (.string ⟨#[dgb u]⟩) W := fun W b h => run_one b _ W (by rw [dig_nat u hu]; exact h)
  go_enter Tryd.func24, Tryd.ntmps24
  go_wp2
  go_ret
  exact ⟨ret_str (by rw [decDigits_one hu]; rfl), (Below.refl _ _).alloc (Nat.le_refl _) _⟩
theorem below_two {w w1 : World} {o : Obj} (hb : Below (w.alloc o).drew.heap.size (w.alloc o).drew w1) : Below w.heap.size w w1 :=
  (((Below.refl w.heap.size w).alloc (Nat.le_refl _) o).drew).trans (hb.mono (by simp))
theorem ret_cat {l l' : List UInt8} {x : UInt8} (h : l ++ [x] = l') : Ending.returned (.string (⟨l.toArray⟩ ++ ⟨#[x]⟩)) = Ending.returned (.string ⟨l'.toArray⟩) := by
  rw [← h]; congr 2
theorem dd_big {u : Nat} (h : ¬ u < 10) : decDigits (u / 10) ++ [dgb (u % 10)] = decDigits u := by
  conv => rhs; rw [decDigits, dif_neg h]
  rfl
set_option maxHeartbeats 1000000 in
theorem rprint_any : ∀ (u : Nat) (hu : u < 18446744073709551616) (w : World),
    Calls Tryd.prog 24 #[.int .u64 u] w fun e w' => e = .returned (.string ⟨(decDigits u).toArray⟩) ∧ Below w.heap.size w w' := by
  intro u
  induction u using Nat.strongRecOn with
  | ind u ih =>
    intro hu w
    by_cases h : u < 10
    · exact rprint_one u h w
    · have IH := Lib.hid (ih (u / 10) (by omega) (by omega))
      clear ih
      have hcv : ∀ W b, W.cell? ⟨b, 0, none⟩ = some (.int .u8 (48 + (u : Int) % 10)) → (convert 51 9 (.slice (some ⟨b, 0, none⟩) 1 1)).run Tryd.prog W = .ok (.string ⟨#[dgb (u % 10)]⟩) W := fun W b h => run_one b _ W (by rw [dig_nat (u % 10) (by omega)]; exact h)
      have hl1 : (decDigits (u / 10)).length ≤ 20 := by rw [decDigits_length]; exact nDigits_le20 _ (by omega)
      have q0 : (u : Int).tmod 10 = (u : Int) % 10 := IntWalk.rem_in _ _ (by omega)
      have q1 : IntKind.u64.wrap ((u : Int) / 10) = (u : Int) / 10 := IntWalk.u64_in _ ⟨by omega, by omega⟩
      have q2 : IntKind.u64.wrap (48 + (u : Int) % 10) = 48 + (u : Int) % 10 := IntWalk.u64_in _ ⟨by omega, by omega⟩
      have q3 : IntKind.u8.wrap (48 + (u : Int) % 10) = 48 + (u : Int) % 10 := IntWalk.u8_in _ ⟨by omega, by omega⟩
      go_enter Tryd.func24, Tryd.ntmps24
      go_wp2
      go_region_with (first | (go_at_call 24; refine (IH.out _).mono ?_; rintro e w1 ⟨rfl, hb⟩; obtain ⟨hc, hf⟩ := bcell hb))
      all_goals clear q0 q1 q2 q3 hl1 hcv
      all_goals go_wp2
      all_goals go_ret
      all_goals refine ⟨ret_cat (dd_big h), ?_⟩
      · have h1 : Below w.heap.size w w1 := ((Below.refl w.heap.size w).drew).trans hb
        exact h1.alloc h1.size _
      · exact below_two hb
      · exact below_two hb

end Go.Proofs.YtlecidgfchaonaaDoor