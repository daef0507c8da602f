import Derived.Test.YtlecidgfchaonaaDoorMB
set_option linter.unusedVariables false
namespace Go.Proofs.YtlecidgfchaonaaDoor
open Go.RowKit Go.Sort Go.Lib
theorem add_top (w : World) : Calls Tryd.prog 68 #[.int .u64 18446744073709551615, .int .u64 1] w fun e w' => e = .returned (.tuple #[.int .u64 0, .int .i64 6]) ∧ w' = w := by
  have h := add_any 18446744073709551615 1 (by omega) (by omega) w
  rw [cutV_no (by omega), cutF_no (by omega)] at h
  exact h
theorem parse_007 (w : World) : Calls Tryd.prog 48 #[.string ⟨#[48, 48, 55]⟩] w fun e w' => e = .returned (.tuple #[.int .u64 0, .int .i64 3]) ∧ w' = w := by
  have h := parse_any ⟨#[48, 48, 55]⟩ (by decide) w
  exact h
theorem parse_70 (w : World) : Calls Tryd.prog 48 #[.string ⟨#[55, 48]⟩] w fun e w' => e = .returned (.tuple #[.int .u64 70, .int .i64 0]) ∧ w' = w := by
  have h := parse_any ⟨#[55, 48]⟩ (by decide) w
  have e1 : parseV (ByteArray.data ⟨#[55, 48]⟩).toList = 70 := by decide
  have e2 : parseF (ByteArray.data ⟨#[55, 48]⟩).toList = 0 := by decide
  rw [e1, e2] at h
  exact h
end Go.Proofs.YtlecidgfchaonaaDoor
namespace Go.Proofs.YtlecidgfchaonaaDoor
open Go.RowKit Go.Sort Go.Lib
theorem dgb_nat (d : Nat) (h : d < 10) : (dgb d).toNat = 48 + d := by have := dig_nat d h; omega
theorem dd_one {u : Nat} (h : u < 10) : decDigits u = [dgb u] := decDigits_one h
theorem decV_dd (n : Nat) : decV (decDigits n) = n := by
  induction n using Nat.strongRecOn with
  | ind n ih =>
    by_cases h : n < 10
    · rw [dd_one h]
      show 0 * 10 + ((dgb n).toNat - 48) = n
      rw [dgb_nat n h]; omega
    · rw [← dd_big h, decV_snoc, ih (n / 10) (by omega), dgb_nat _ (by omega)]; omega
theorem isD_dgb (d : Nat) (h : d < 10) : isD (dgb d) = true := (isD_iff _).2 (by rw [dgb_nat d h]; omega)
theorem all_dd (n : Nat) : (decDigits n).all isD = true := by
  induction n using Nat.strongRecOn with
  | ind n ih =>
    by_cases h : n < 10
    · rw [dd_one h]; simp [isD_dgb n h]
    · rw [← dd_big h, all_snoc, ih (n / 10) (by omega), isD_dgb _ (by omega)]; rfl
theorem dd_ne (n : Nat) : decDigits n ≠ [] := by
  intro e
  have := decDigits_length n
  have := nDigits_pos n
  rw [e] at *; simp at *; omega
theorem head_dd (n : Nat) (h : 1 ≤ n) : (decDigits n).head? ≠ some 48 := by
  induction n using Nat.strongRecOn with
  | ind n ih =>
    by_cases h9 : n < 10
    · rw [dd_one h9]
      intro e
      have : dgb n = 48 := by simpa using e
      have := congrArg UInt8.toNat this
      rw [dgb_nat n h9] at this
      have h48 : (48 : UInt8).toNat = 48 := rfl
      omega
    · rw [← dd_big h9, List.head?_append]
      have := ih (n / 10) (by omega) (by omega)
      cases hd : (decDigits (n / 10)).head? with
      | none => exact absurd (List.head?_eq_none_iff.1 hd) (dd_ne _)
      | some x => rw [hd] at this; simpa using this
theorem lead_dd (n : Nat) : lead (decDigits n) = false := by
  have hne : (decDigits n).isEmpty = false := by simpa using dd_ne n
  unfold lead
  rw [hne, Bool.false_or]
  by_cases h : n < 10
  · rw [dd_one h]; simp
  · have := head_dd n (by omega)
    rw [Bool.and_eq_false_iff]; exact Or.inl (by simpa using this)
theorem parse_dd (n : Nat) (h : n < 18446744073709551616) : parseV (decDigits n) = n ∧ parseF (decDigits n) = 0 := by
  obtain ⟨h1, h2⟩ := parse_good _ (all_dd n) (lead_dd n)
  rw [h1, h2, decV_dd, cutV_yes h, cutF_yes h]; exact ⟨rfl, rfl⟩
theorem dgb_of (c : UInt8) (h : isD c = true) : dgb (c.toNat - 48) = c := by
  have := (isD_iff c).1 h
  apply UInt8.toNat_inj.1
  rw [dgb_nat _ (by omega)]; omega
theorem pos_of_head : ∀ (l : List UInt8), l ≠ [] → l.all isD = true → l.head? ≠ some 48 → 1 ≤ decV l := by
  intro l hne ha hh
  cases l with
  | nil => exact absurd rfl hne
  | cons c r =>
    have hc : isD c = true := by simp at ha; exact ha.1
    have h48 : c ≠ 48 := by simpa using hh
    have := (isD_iff c).1 hc
    have hn : c.toNat ≠ 48 := fun e => h48 (UInt8.toNat_inj.1 e)
    have := decV_append [c] r
    have e1 : decV [c] = c.toNat - 48 := by simp [decV]
    rw [e1] at this
    have : c.toNat - 48 ≤ decV (c :: r) := this
    omega
theorem lead_false {l : List UInt8} (h : lead l = false) : l ≠ [] ∧ (l.head? ≠ some 48 ∨ l.length ≤ 1) := by
  have hne : l ≠ [] := by intro e; simp [lead, e] at h
  refine ⟨hne, ?_⟩
  have hie : l.isEmpty = false := by simpa using hne
  unfold lead at h
  rw [hie, Bool.false_or, Bool.and_eq_false_iff] at h
  rcases h with h | h
  · exact Or.inl (by simpa using h)
  · exact Or.inr (by have := of_decide_eq_false h; omega)
theorem dd_decV' (k : Nat) : ∀ l : List UInt8, l.length = k → l.all isD = true → lead l = false → decDigits (decV l) = l := by
  induction k with
  | zero => intro l hk _ h; rw [List.length_eq_zero_iff.1 hk] at h; simp [lead] at h
  | succ k ih0 =>
    intro l hk ha hl
    obtain ⟨r, c, rfl⟩ : ∃ r c, l = r ++ [c] := by
      rcases List.eq_nil_or_concat l with rfl | ⟨r, c, e⟩
      · simp at hk
      · exact ⟨r, c, by simpa using e⟩
    have ih := ih0 r (by simpa using hk)
    rw [all_snoc, Bool.and_eq_true] at ha
    have hc := (isD_iff c).1 ha.2
    by_cases hr : r = []
    · subst hr
      rw [decV_snoc]
      show decDigits (0 * 10 + (c.toNat - 48)) = [c]
      rw [dd_one (by omega), show 0 * 10 + (c.toNat - 48) = c.toNat - 48 by omega, dgb_of c ha.2]
    · have hlen : 1 ≤ r.length := List.length_pos_iff.2 hr
      obtain ⟨_, hh⟩ := lead_false hl
      have hh' : r.head? ≠ some 48 := by
        rcases hh with hh | hh
        · intro e; apply hh; rw [List.head?_append, e]; rfl
        · rw [List.length_append] at hh; have : [c].length = 1 := rfl; omega
      have hpos := pos_of_head r hr ha.1 hh'
      have hl' : lead r = false := by
        have hie : r.isEmpty = false := by simpa using hr
        unfold lead
        rw [hie, Bool.false_or, Bool.and_eq_false_iff]; exact Or.inl (by simpa using hh')
      rw [decV_snoc, ← dd_big (u := decV r * 10 + (c.toNat - 48)) (by omega), show (decV r * 10 + (c.toNat - 48)) / 10 = decV r by omega, show (decV r * 10 + (c.toNat - 48)) % 10 = c.toNat - 48 by omega, ih ha.1 hl', dgb_of c ha.2]
theorem dd_decV (l : List UInt8) : l.all isD = true → lead l = false → decDigits (decV l) = l := dd_decV' _ l rfl
theorem parse_ok {l : List UInt8} (h : parseF l = 0) : parseV l < 18446744073709551616 ∧ decDigits (parseV l) = l := by
  unfold parseF at h
  by_cases hl : lead l = true
  · rw [if_pos hl] at h; omega
  · have hl' : lead l = false := by simpa using hl
    rw [if_neg hl] at h
    by_cases ha : l.all isD = true
    · rw [if_pos ha] at h
      have hlt : decV l < 18446744073709551616 := by
        rcases Nat.lt_or_ge (decV l) 18446744073709551616 with x | x
        · exact x
        · rw [cutF_no (by omega)] at h; omega
      obtain ⟨h1, _⟩ := parse_good _ ha hl'
      rw [h1, cutV_yes hlt]
      exact ⟨hlt, dd_decV l ha hl'⟩
    · rw [if_neg ha] at h; omega
theorem parse_fault {l : List UInt8} (h : parseF l ≠ 0) : parseV l = 0 := by
  unfold parseF at h
  unfold parseV
  by_cases hl : lead l = true
  · rw [if_pos hl]
  · rw [if_neg hl] at h ⊢
    by_cases ha : l.all isD = true
    · rw [if_pos ha] at h ⊢
      rcases Nat.lt_or_ge (decV l) 18446744073709551616 with x | x
      · rw [cutF_yes x] at h; exact absurd rfl h
      · exact cutV_no (by omega)
    · rw [if_neg ha]

theorem print_parse (n : Nat) (h : n < 18446744073709551616) (w : World) :
    Calls Tryd.prog 48 #[.string ⟨(decDigits n).toArray⟩] w fun e w' => e = .returned (.tuple #[.int .u64 n, .int .i64 0]) ∧ w' = w := by
  have hl := nDigits_le20 n h
  have hsz : (ByteArray.mk (decDigits n).toArray).size ≤ maxLen := by
    show (decDigits n).toArray.size ≤ _
    rw [List.size_toArray, decDigits_length]; unfold maxLen; omega
  have hp := parse_any ⟨(decDigits n).toArray⟩ hsz w
  have e : (ByteArray.mk (decDigits n).toArray).data.toList = decDigits n := by simp
  rw [e, (parse_dd n h).1, (parse_dd n h).2] at hp
  exact hp
theorem print_back (s : ByteArray) (h : parseF s.data.toList = 0) (w : World) (htab : Pow10 w) :
    Calls Tryd.prog 44 #[.int .u64 (parseV s.data.toList : Nat)] w fun e w' => e = .returned (.string s) ∧ Below w.heap.size w w' := by
  obtain ⟨h1, h2⟩ := parse_ok h
  have hp := print_any _ h1 w htab
  rw [h2] at hp
  exact hp
theorem subV_back (n d : Nat) : subV (n + d) d = n ∧ subF (n + d) d = 0 := by
  unfold subV subF
  rw [if_neg (by omega)]; exact ⟨by omega, rfl⟩
end Go.Proofs.YtlecidgfchaonaaDoor