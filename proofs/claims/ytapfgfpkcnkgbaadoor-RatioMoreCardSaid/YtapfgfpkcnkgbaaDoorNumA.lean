import Derived.Test.YtapfgfpkcnkgbaaDoorRows
import Derived.Test.YtapfgfpkcnkgbaaDoorShelf
import Derived.WalkKit
import Derived.ProofKit
import Derived.OpenShut
import Derived.Laws.Externs
import Derived.Shelf.Spec.BitsCarry
import Derived.Lib.Hide
import Derived.Lib.ItoaNum
import Derived.WalkLawsBesides
import Derived.WalkSpells
set_option linter.unusedVariables false
namespace Go.Proofs.YtapfgfpkcnkgbaaDoor
open Go.RowKit
def cutV (n : Nat) : Nat := if n < 18446744073709551616 then n else 0
def cutF (n : Nat) : Int := if n < 18446744073709551616 then 0 else 6
def isD (c : UInt8) : Bool := decide (48 ≤ c.toNat) && decide (c.toNat ≤ 57)
def decV (l : List UInt8) : Nat := l.foldl (fun n c => n * 10 + (c.toNat - 48)) 0
def lead (l : List UInt8) : Bool := l.isEmpty || (l.head? == some 48 && decide (1 < l.length))
def parseV (l : List UInt8) : Nat := if lead l then 0 else if l.all isD then cutV (decV l) else 0
def parseF (l : List UInt8) : Int := if lead l then 3 else if l.all isD then cutF (decV l) else 3
theorem decV_snoc (l : List UInt8) (c : UInt8) : decV (l ++ [c]) = decV l * 10 + (c.toNat - 48) := by simp [decV]
theorem all_snoc (l : List UInt8) (c : UInt8) : (l ++ [c]).all isD = (l.all isD && isD c) := by simp
theorem take_snoc (s : ByteArray) (k : Nat) (h : k < s.size) : s.data.toList.take (k + 1) = s.data.toList.take k ++ [s[k]] := by
  rw [List.take_succ_eq_append_getElem (by simpa using h)]; rfl


theorem cutV_lt (n : Nat) : cutV n < 18446744073709551616 := by unfold cutV; split <;> omega
theorem cutV_no {n : Nat} (h : ¬ n < 18446744073709551616) : cutV n = 0 := if_neg h
theorem cutF_no {n : Nat} (h : ¬ n < 18446744073709551616) : cutF n = 6 := if_neg h
theorem cutV_yes {n : Nat} (h : n < 18446744073709551616) : cutV n = n := if_pos h
theorem cutF_yes {n : Nat} (h : n < 18446744073709551616) : cutF n = 0 := if_pos h
theorem isD_iff (c : UInt8) : isD c = true ↔ 48 ≤ c.toNat ∧ c.toNat ≤ 57 := by simp [isD]
theorem ret_pair {a a' b b' : Int} (h : a = a') (h' : b = b') : Ending.returned (.tuple #[.int .u64 a, .int .i64 b]) = Ending.returned (.tuple #[.int .u64 a', .int .i64 b']) := by rw [h, h']
theorem int_same {k : IntKind} {a a' : Int} (h : a = a') : Value.int k a = .int k a' := by rw [h]
theorem parse_bad (l : List UInt8) (h : l.all isD = false) (hl : lead l = false) : parseV l = 0 ∧ parseF l = 3 := by
  unfold parseV parseF; simp [h, hl]
theorem parse_good (l : List UInt8) (h : l.all isD = true) (hl : lead l = false) : parseV l = cutV (decV l) ∧ parseF l = cutF (decV l) := by
  unfold parseV parseF; simp [h, hl]
/-- What holds of the first k bytes. -/
def Dig (l : List UInt8) (k n : Nat) : Prop := n = decV (l.take k) ∧ (l.take k).all isD = true
theorem Dig.zero (l : List UInt8) : Dig l 0 0 := ⟨rfl, rfl⟩
theorem Dig.step {s : ByteArray} {k n : Nat} (h : Dig s.data.toList k n) (hk : k < s.size) (h1 : 48 ≤ s[k].toNat) (h2 : s[k].toNat ≤ 57) : Dig s.data.toList (k + 1) (n * 10 + (s[k].toNat - 48)) := by
  refine ⟨?_, ?_⟩
  · rw [take_snoc s k hk, decV_snoc, ← h.1]
  · rw [take_snoc s k hk, all_snoc, h.2, (isD_iff _).2 ⟨h1, h2⟩]; rfl
theorem all_bad {s : ByteArray} {k : Nat} (hk : k < s.size) (h : ¬ (48 ≤ s[k].toNat ∧ s[k].toNat ≤ 57)) : s.data.toList.all isD = false := by
  rw [List.all_eq_false]
  refine ⟨s[k], ?_, fun x => h ((isD_iff _).1 x)⟩
  have : s.data.toList[k]'(by simpa using hk) = s[k] := rfl
  rw [← this]; exact List.getElem_mem _
theorem Dig.done {s : ByteArray} {n : Nat} (h : Dig s.data.toList s.size n) : n = decV s.data.toList ∧ s.data.toList.all isD = true := by
  have e : s.data.toList.take s.size = s.data.toList := List.take_of_length_le (by simp)
  unfold Dig at h
  rwa [e] at h

theorem Dig.keep {l : List UInt8} {k n : Nat} (h : Dig l k n) (m : Nat) (hm : n = m) : Dig l k m := hm ▸ h
theorem cut_step (n d : Nat) (hn : n < 18446744073709551616) : cutV n * 10 + d = n * 10 + d := by rw [cutV_yes hn]
theorem cut_over (n d : Nat) (hn : ¬ n < 18446744073709551616) : cutV (n * 10 + d) = cutV n ∧ cutF (n * 10 + d) = cutF n := by
  have h : ¬ n * 10 + d < 18446744073709551616 := by omega
  rw [cutV_no hn, cutV_no h, cutF_no hn, cutF_no h]; exact ⟨rfl, rfl⟩
theorem lead_no {s : ByteArray} (h : lead s.data.toList = false) : s.toList.isEmpty = false ∧ ∃ h0 : 0 < s.size, ∃ z : Bool, (((s[0]'h0).toNat : Int) == 48) = z ∧ (z = true → decide (1 < (s.size : Int)) = false) := by
  have hsz : s.size = s.data.toList.length := by simp
  have hne : s.data.toList ≠ [] := by intro e; simp [lead, e] at h
  have h0 : 0 < s.size := by rw [hsz]; exact List.length_pos_iff.2 hne
  refine ⟨by rw [ByteArray.toList_eq]; simpa using hne, h0, _, rfl, fun hz => ?_⟩
  have e0 : s.data.toList.head? = some (s[0]'h0) := by
    rw [List.head?_eq_getElem?, List.getElem?_eq_getElem (by omega)]; rfl
  have hz' : s[0]'h0 = 48 := by
    have : (s[0]'h0).toNat = 48 := by have := of_decide_eq_true (p := ((s[0]'h0).toNat : Int) = 48) (by simpa using hz); omega
    exact UInt8.toNat_inj.1 this
  simp only [lead, e0, hz', beq_self_eq_true, Bool.true_and, Bool.or_eq_false_iff] at h
  have := of_decide_eq_false h.2
  exact decide_eq_false (by omega)
theorem cut_over' (n d : Nat) (h : ¬ n * 10 < 18446744073709551616) : cutV (n * 10 + d) = 0 ∧ cutF (n * 10 + d) = cutF (n * 10) := by
  have h' : ¬ n * 10 + d < 18446744073709551616 := by omega
  rw [cutV_no h', cutF_no h', cutF_no h]; exact ⟨rfl, rfl⟩
def subV (a b : Nat) : Nat := a - b
def subF (a b : Nat) : Int := if a < b then 6 else 0
def chkV (n b : Nat) : Nat := if b = 0 then n else 0
def chkF (b : Nat) : Int := if b = 0 then 0 else 6
def minV (a b : Nat) : Nat := if a ≤ b then a else b
def modV (i n : Int) : Int := if n < 1 then 0 else if i.tmod n < 0 then wrap64 (i.tmod n + n) else i.tmod n

theorem run25 (x y : Nat) (hx : x < 18446744073709551616) (hy : y < 18446744073709551616) (w : World) :
    (callFunc 46 #[.int .u64 x, .int .u64 y, .int .u64 0]).run Tryd.prog w = .ok (.value (.tuple #[.int .u64 (((x + y) % 18446744073709551616 : Nat) : Int), .int .u64 (((x + y) / 18446744073709551616 : Nat) : Int)])) w := by
  have h := run_add64 (P := Tryd.prog) x y 0 (by omega) (by omega) (by omega) (by omega) (w := w)
  rw [run_callFunc_extern Tryd.func46 (by kernel_rfl) (by kernel_rfl) (by kernel_rfl) (e := add64Entry) (by kernel_rfl)]
  have h' : (add64Entry #[.int .u64 x, .int .u64 y, .int .u64 0]).run Tryd.prog w = _ := h
  rw [h']
  rfl
theorem checked_any (n b : Nat) (w : World) :
    Calls Tryd.prog 47 #[.int .u64 n, .int .u64 b] w fun e w' => e = .returned (.tuple #[.int .u64 (chkV n b : Nat), .int .i64 (chkF b)]) ∧ w' = w := by
  by_cases hb : b = 0
  · subst hb
    go_enter Tryd.func47, Tryd.ntmps47
    go_wp2
    go_ret2
    exact ⟨rfl, rfl⟩
  · have e1 : chkV n b = 0 := if_neg hb
    have e2 : chkF b = 6 := if_neg hb
    rw [e1, e2]
    clear e1 e2
    go_enter Tryd.func47, Tryd.ntmps47
    go_wp2
    go_ret2
    exact ⟨rfl, rfl⟩
theorem chk_add (a b : Nat) (ha : a < 18446744073709551616) (hb : b < 18446744073709551616) : chkV ((a + b) % 18446744073709551616) ((a + b) / 18446744073709551616) = cutV (a + b) ∧ chkF ((a + b) / 18446744073709551616) = cutF (a + b) := by
  unfold chkV chkF cutV cutF
  split <;> split <;> first | omega | (constructor <;> omega)
theorem chk_sub (a b : Nat) (ha : a < 18446744073709551616) (hb : b < 18446744073709551616) : chkV ((a + 18446744073709551616 - b) % 18446744073709551616) (if a < b then 1 else 0) = subV a b ∧ chkF (if a < b then 1 else 0) = subF a b := by
  unfold chkV chkF subV subF
  by_cases h : a < b
  · rw [if_pos h, if_pos h]; refine ⟨?_, rfl⟩; rw [if_neg (by decide)]; omega
  · rw [if_neg h, if_neg h]; refine ⟨?_, rfl⟩; rw [if_pos rfl]; omega
theorem chk_mul (a b : Nat) : chkV ((a * b) % 18446744073709551616) ((a * b) / 18446744073709551616) = cutV (a * b) ∧ chkF ((a * b) / 18446744073709551616) = cutF (a * b) := by
  unfold chkV chkF cutV cutF
  generalize a * b = m
  split <;> split <;> first | omega | (constructor <;> omega)

theorem add_any (a b : Nat) (ha : a < 18446744073709551616) (hb : b < 18446744073709551616) (w : World) :
    Calls Tryd.prog 37 #[.int .u64 a, .int .u64 b] w fun e w' => e = .returned (.tuple #[.int .u64 (cutV (a + b) : Nat), .int .i64 (cutF (a + b))]) ∧ w' = w := by
  have h := run25 a b ha hb
  obtain ⟨e1, e2⟩ := chk_add a b ha hb
  rw [← e1, ← e2]
  clear e1 e2
  generalize (a + b) % 18446744073709551616 = r at *
  generalize (a + b) / 18446744073709551616 = c at *
  go_enter Tryd.func37, Tryd.ntmps37
  go_wp2_with (go_at_call 47; refine (checked_any _ _ _).mono ?_; rintro e w' ⟨rfl, rfl⟩)
  go_ret2
  exact ⟨rfl, rfl⟩

theorem mul_any (a b : Nat) (ha : a < 18446744073709551616) (hb : b < 18446744073709551616) (w : World) :
    Calls Tryd.prog 49 #[.int .u64 a, .int .u64 b] w fun e w' => e = .returned (.tuple #[.int .u64 (cutV (a * b) : Nat), .int .i64 (cutF (a * b))]) ∧ w' = w := by
  have h := Tryd.bits_Mul64 a b ha hb
  obtain ⟨e1, e2⟩ := chk_mul a b
  rw [← e1, ← e2]
  clear e1 e2
  generalize (a * b) % 18446744073709551616 = r at *
  generalize (a * b) / 18446744073709551616 = c at *
  have H := Lib.hid h
  clear h
  go_enter Tryd.func49, Tryd.ntmps49
  go_wp2_with (first
    | (go_at_call 44; refine (H.out _).mono ?_; rintro e w' ⟨rfl, rfl⟩)
    | (go_at_call 47; refine (checked_any _ _ _).mono ?_; rintro e w' ⟨rfl, rfl⟩))
  go_ret2
  exact ⟨rfl, rfl⟩

theorem radd_any (a b : Nat) (ha : a < 18446744073709551616) (hb : b < 18446744073709551616) (w : World) :
    Calls Tryd.prog 42 #[.int .u64 a, .int .u64 b] w fun e w' => e = .returned (.tuple #[.int .u64 (cutV (a + b) : Nat), .int .i64 (cutF (a + b))]) ∧ w' = w := by
  by_cases h : a + b < 18446744073709551616
  · have e1 : cutV (a + b) = a + b := if_pos h
    have e2 : cutF (a + b) = 0 := if_pos h
    rw [e1, e2]
    clear e1 e2
    go_enter Tryd.func42, Tryd.ntmps42
    go_wp2
    go_ret2
    exact ⟨rfl, rfl⟩
  · have e1 : cutV (a + b) = 0 := if_neg h
    have e2 : cutF (a + b) = 6 := if_neg h
    rw [e1, e2]
    clear e1 e2
    go_enter Tryd.func42, Tryd.ntmps42
    go_wp2
    go_ret2
    exact ⟨rfl, rfl⟩
theorem cap_any (a b : Nat) (w : World) :
    Calls Tryd.prog 38 #[.int .u64 a, .int .u64 b] w fun e w' => e = .returned (.int .u64 (min (a : Int) b)) ∧ w' = w := by
  go_enter Tryd.func38, Tryd.ntmps38
  go_wp2
  go_ret
  exact ⟨rfl, rfl⟩
theorem rmul_any (a b : Nat) (ha : a < 18446744073709551616) (hb : b < 18446744073709551616) (w : World) :
    Calls Tryd.prog 41 #[.int .u64 a, .int .u64 b] w fun e w' => e = .returned (.tuple #[.int .u64 (cutV (a * b) : Nat), .int .i64 (cutF (a * b))]) ∧ w' = w := by
  by_cases h0 : b = 0
  · subst h0
    go_enter Tryd.func41, Tryd.ntmps41
    go_wp2
    go_ret2
    exact ⟨rfl, rfl⟩
  · have hq : (a * b < 18446744073709551616) ↔ a ≤ 18446744073709551615 / b := by
      rw [Nat.le_div_iff_mul_le (by omega)]; omega
    have hdiv : (18446744073709551615 : Int) / (b : Int) = ((18446744073709551615 / b : Nat) : Int) := by simp
    have hqb : 18446744073709551615 / b ≤ 18446744073709551615 := Nat.div_le_self _ _
    have hb0 : ((b : Int) == 0) = false := by simpa using h0
    have hb1 : ((b : Int) != 0) = true := by simpa using h0
    by_cases h : a * b < 18446744073709551616
    · have e1 : cutV (a * b) = a * b := if_pos h
      have e2 : cutF (a * b) = 0 := if_pos h
      have ew : IntKind.u64.wrap ((a : Int) * b) = ((a * b : Nat) : Int) := by rw [← Int.natCast_mul]; exact IntWalk.u64_in _ ⟨by omega, by omega⟩
      rw [e1, e2]
      have hle := hq.1 h
      generalize 18446744073709551615 / b = q at *
      have hd : decide (q < a) = false := by simpa using hle
      clear e1 e2 hq
      go_enter Tryd.func41, Tryd.ntmps41
      go_wp2
      go_ret2
      exact ⟨rfl, rfl⟩
    · have e1 : cutV (a * b) = 0 := if_neg h
      have e2 : cutF (a * b) = 6 := if_neg h
      rw [e1, e2]
      have hle : ¬ a ≤ _ := fun x => h (hq.2 x)
      generalize 18446744073709551615 / b = q at *
      have hd : decide (q < a) = true := by simpa using hle
      clear e1 e2 hq
      go_enter Tryd.func41, Tryd.ntmps41
      go_wp2
      go_ret2
      exact ⟨rfl, rfl⟩
theorem push_any (n : Nat) (d : Int) (hn : n < 18446744073709551616) (h0 : 0 ≤ d) (hd : d ≤ 9) (w : World) :
    Calls Tryd.prog 40 #[.int .u64 n, .int .u64 d] w fun e w' => e = .returned (.tuple #[.int .u64 (cutV (n * 10 + d.toNat) : Nat), .int .i64 (cutF (n * 10 + d.toNat))]) ∧ w' = w := by
  obtain ⟨d, rfl⟩ : ∃ m : Nat, d = m := ⟨d.toNat, by omega⟩
  rw [Int.toNat_natCast]
  have hm := mul_any n 10 hn (by omega)
  have ha := fun (x : Nat) (hx : x < 18446744073709551616) => add_any x d hx (by omega)
  have HM := Lib.hid hm
  have HA := Lib.hid ha
  clear hm ha
  by_cases h : n * 10 < 18446744073709551616
  · have e1 : cutV (n * 10) = n * 10 := cutV_yes h
    have e2 : (cutF (n * 10) != 0) = false := by rw [cutF_yes h]; rfl
    have E1 := Lib.hid e1
    clear e1
    have hlt := cutV_lt (n * 10)
    go_enter Tryd.func40, Tryd.ntmps40
    go_wp2_with (first
      | (go_at_call 49; refine (HM.out _).mono ?_; rintro e w' ⟨rfl, rfl⟩)
      | (go_at_call 37; refine (HA.out _ hlt _).mono ?_; rintro e w' ⟨rfl, rfl⟩))
    go_ret2
    exact ⟨ret_pair (by rw [E1.out]) (by rw [E1.out]), rfl⟩
  · have e1 : cutV (n * 10) = 0 := cutV_no h
    have e2 : (cutF (n * 10) != 0) = true := by rw [cutF_no h]; rfl
    have e3 := cut_over' n d h
    have E3 := Lib.hid e3
    clear e1 e3
    go_enter Tryd.func40, Tryd.ntmps40
    go_wp2_with (first
      | (go_at_call 49; refine (HM.out _).mono ?_; rintro e w' ⟨rfl, rfl⟩))
    go_ret2
    exact ⟨ret_pair (by rw [E3.out.1]; rfl) (by rw [E3.out.2]), rfl⟩
set_option maxHeartbeats 1000000 in
theorem parse_num (s : ByteArray) (w : World) (hs : s.size ≤ maxLen) (hl : lead s.data.toList = false) :
    Calls Tryd.prog 25 #[.string s] w fun e w' => e = .returned (.tuple #[.int .u64 (parseV s.data.toList : Nat), .int .i64 (parseF s.data.toList)]) ∧ w' = w := by
  unfold maxLen at hs
  obtain ⟨hne, h0, z, hz, hz1⟩ := lead_no hl
  have HL := Lib.hid hl
  have hcase : (((s[0]'h0).toNat : Int) == 48) = false ∨ ((((s[0]'h0).toNat : Int) == 48) = true ∧ decide (1 < (s.size : Int)) = false) := by
    cases z with
    | false => exact Or.inl hz
    | true => exact Or.inr ⟨hz, hz1 rfl⟩
  clear hl hz hz1
  rcases hcase with hz | ⟨hz, hs1⟩
  all_goals
    go_enter Tryd.func25, Tryd.ntmps25
    go_wp2
    go_step3
    go_wp2
    go_step3
    go_wp2
    go_loop [4, 5, 22] (fun v f i => ∃ k n : Nat, k ≤ s.size ∧ i = .int .i64 k ∧ v = .int .u64 (cutV n : Nat) ∧ f = .int .i64 (cutF n) ∧ Hid (Dig s.data.toList k n)) (fun _ _ i => s.size - (intOf i).toNat)
    case atStart => exact ⟨0, 0, Nat.zero_le _, rfl, rfl, rfl, Dig.zero _⟩
    case round =>
      obtain ⟨k, n, hk, rfl, rfl, rfl, HD⟩ := hrel
      by_cases hlt : k < s.size
      · by_cases hc : 48 ≤ s[k].toNat ∧ s[k].toNat ≤ 57
        · obtain ⟨hc1, hc2⟩ := hc
          by_cases hn : n < 18446744073709551616
          · have hf : (cutF n != 0) = false := by rw [cutF_yes hn]; rfl
            have hcv := cutV_lt n
            go_wp2_with (go_at_call 40; refine (push_any _ _ (by assumption) (by omega) (by omega) _).mono ?_; rintro e w' ⟨rfl, rfl⟩)
            go_round
            case rel => exact ⟨k + 1, n * 10 + (s[k].toNat - 48), by omega, by go_num, by rw [cut_step _ _ hn], by rw [cut_step _ _ hn], HD.out.step hlt hc1 hc2⟩
            case measure => simp [intOf]; omega
          · have hf : (cutF n != 0) = true := by rw [cutF_no hn]; rfl
            go_wp2
            go_round
            case rel => exact ⟨k + 1, n * 10 + (s[k].toNat - 48), by omega, by go_num, by rw [(cut_over _ _ hn).1], by rw [(cut_over _ _ hn).2], HD.out.step hlt hc1 hc2⟩
            case measure => simp [intOf]; omega
        · have HB := Lib.hid (parse_bad _ (all_bad hlt hc) HL.out)
          go_wp2
          all_goals go_ret2
          all_goals exact ⟨ret_pair (by rw [HB.out.1]; rfl) HB.out.2.symm, rfl⟩
      · obtain rfl : k = s.size := by omega
        have HG := Lib.hid (parse_good _ HD.out.done.2 HL.out)
        have HN := Lib.hid HD.out.done.1
        go_wp2
        go_ret2
        exact ⟨ret_pair (by rw [HG.out.1, ← HN.out]) (by rw [HG.out.2, ← HN.out]), rfl⟩
theorem lead_yes {s : ByteArray} (h : lead s.data.toList = true) (h0 : s.size ≠ 0) : s.toList.isEmpty = false ∧ 1 < s.size ∧ ∃ h0 : 0 < s.size, (((s[0]'h0).toNat : Int) == 48) = true := by
  have hsz : s.size = s.data.toList.length := by simp
  have hne : s.data.toList ≠ [] := by intro e; rw [e] at hsz; exact h0 hsz
  have h0' : 0 < s.size := by omega
  have e0 : s.data.toList.head? = some (s[0]'h0') := by
    rw [List.head?_eq_getElem?, List.getElem?_eq_getElem (by omega)]; rfl
  have hie : s.data.toList.isEmpty = false := by simpa using hne
  simp only [lead, e0, hie, Bool.false_or, Bool.and_eq_true, decide_eq_true_eq] at h
  refine ⟨by rw [ByteArray.toList_eq]; exact hie, by omega, h0', ?_⟩
  have h1 : s[0]'h0' = 48 := by simpa using h.1
  rw [h1]; rfl
theorem parse_lead (s : ByteArray) (w : World) (hs : s.size ≤ maxLen) (hl : lead s.data.toList = true) :
    Calls Tryd.prog 25 #[.string s] w fun e w' => e = .returned (.tuple #[.int .u64 0, .int .i64 3]) ∧ w' = w := by
  unfold maxLen at hs
  by_cases h0 : s.size = 0
  · obtain rfl : s = ⟨#[]⟩ := by
      cases s with | mk d => congr; exact Array.eq_empty_of_size_eq_zero h0
    clear hl
    go_enter Tryd.func25, Tryd.ntmps25
    go_wp2
    go_step3
    go_wp2
    rw [Exit.noGoto_ret]
    go_ret2
    exact ⟨rfl, rfl⟩
  · obtain ⟨hne, h1, h0', hz⟩ := lead_yes hl h0
    clear hl
    go_enter Tryd.func25, Tryd.ntmps25
    go_wp2
    go_step3
    go_wp2
    rw [Exit.noGoto_ret]
    go_ret2
    exact ⟨rfl, rfl⟩
theorem parse_any (s : ByteArray) (hs : s.size ≤ maxLen) (w : World) :
    Calls Tryd.prog 25 #[.string s] w fun e w' => e = .returned (.tuple #[.int .u64 (parseV s.data.toList : Nat), .int .i64 (parseF s.data.toList)]) ∧ w' = w := by
  by_cases hl : lead s.data.toList = true
  · have e1 : parseV s.data.toList = 0 := by unfold parseV; rw [if_pos hl]
    have e2 : parseF s.data.toList = 3 := by unfold parseF; rw [if_pos hl]
    rw [e1, e2]
    exact parse_lead s w hs hl
  · exact parse_num s w hs (by simpa using hl)

