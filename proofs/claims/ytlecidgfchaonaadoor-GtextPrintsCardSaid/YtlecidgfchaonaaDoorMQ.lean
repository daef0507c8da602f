import Derived.Test.YtlecidgfchaonaaDoorMP
import Derived.Test.YtlecidgfchaonaaDoorGtxZf1
import Derived.Test.YtlecidgfchaonaaDoorGtxZf2
import Derived.Test.YtlecidgfchaonaaDoorGtxZf3
set_option linter.unusedVariables false
set_option linter.unusedSimpArgs false
namespace Go.Proofs.YtlecidgfchaonaaDoor
open Go.RowKit
/-! PLAIN FACTS: Parse, three words at a time. -/
theorem run_fail {l : List ByteArray} {k nd N : Nat} {es : List Ed} {p : Nat → Int} {F : Int} (h : parseG l = runP l (l.length + 2 - k) k nd N es) (hk : k < nd) (hl : k ≤ l.length) (hp : ∀ n, p n = numF N es k n) (hF : nextF l k p = F) (hF0 : F ≠ 0) : parseG l = (0, [], (k : Int), F) := by
  rcases Nat.lt_or_ge k l.length with h1 | h1
  · have hx : l[k]? = some l[k] := List.getElem?_eq_getElem h1
    have e : wordF N es k l[k] = F := by
      rw [← hF, next_at p hx]
      unfold wordF
      rw [hp]
    rw [← e]
    exact run_bad h hk hx (by rw [e]; exact hF0)
  · rw [next_few p h1] at hF
    rw [run_few h hk (by omega), ← hF]
    have : l.length = k := by omega
    rw [this]
theorem run_next {l : List ByteArray} {k nd N : Nat} {es : List Ed} {p : Nat → Int} (h : parseG l = runP l (l.length + 2 - k) k nd N es) (hk : k < nd) (hp : ∀ n, p n = numF N es k n) (hF : nextF l k p = 0) :
    parseG l = runP l (l.length + 2 - (k + 1)) (k + 1) (if k = 1 then 2 + 3 * nextV l k else nd) (takeN N k (nextV l k)) (takeE es k (nextV l k)) := by
  have h1 := next_lt hF
  have hx : l[k]? = some l[k] := List.getElem?_eq_getElem h1
  have e : wordF N es k l[k] = 0 := by
    rw [← hF, next_at p hx]
    unfold wordF
    rw [hp]
  have := run_good h hk hx e
  rw [nextV_at hx]
  exact this
theorem p_nodes (N : Nat) (es : List Ed) (n : Nat) : limF 1 4096 2 n = numF N es 0 n := by unfold limF numF; rw [if_pos rfl]
theorem p_edges (N : Nat) (es : List Ed) (n : Nat) : limF 0 16384 5 n = numF N es 1 n := by
  unfold limF numF
  rw [if_neg (show ¬ (1 : Nat) = 0 by omega), if_pos rfl]
  by_cases h : 16384 < n
  · rw [if_pos (Or.inr h), if_pos h]
  · rw [if_neg (fun x => x.elim (by omega) h), if_neg h]
theorem p_from (hi j : Nat) (es : List Ed) (n : Nat) : limF 0 hi 7 n = numF (hi + 1) es (2 + 3 * j) n := by
  unfold limF numF
  rw [if_neg (show ¬ 2 + 3 * j = 0 by omega), if_neg (show ¬ 2 + 3 * j = 1 by omega), if_neg (show ¬ (2 + 3 * j - 2) % 3 = 2 by omega)]
  by_cases h : hi < n
  · rw [if_pos (Or.inr h), if_pos (Or.inl (by omega))]
  · rw [if_neg (fun x => x.elim (by omega) h), if_neg (fun x => x.elim (by omega) (fun y => by omega))]
theorem lastF_app (l : List Ed) (e : Ed) : lastF (l ++ [e]) = e.f := by unfold lastF; simp
theorem p_to (hi j fr : Nat) (es : List Ed) (n : Nat) : othF fr 0 hi 7 n = numF (hi + 1) (es ++ [⟨(fr : Int), 0, 0⟩]) (2 + 3 * j + 1) n := by
  unfold othF limF numF
  rw [if_neg (show ¬ 2 + 3 * j + 1 = 0 by omega), if_neg (show ¬ 2 + 3 * j + 1 = 1 by omega), if_neg (show ¬ (2 + 3 * j + 1 - 2) % 3 = 2 by omega), lastF_app]
  simp only
  by_cases e : n = fr
  · rw [if_pos e, if_pos (Or.inr ⟨by omega, by rw [e]⟩)]
  · rw [if_neg e]
    by_cases h : hi < n
    · rw [if_pos (Or.inr h), if_pos (Or.inl (by omega))]
    · rw [if_neg (fun x => x.elim (by omega) h), if_neg (fun x => x.elim (by omega) (fun y => by omega))]
theorem p_weight (N j : Nat) (es : List Ed) (n : Nat) : limF 1 4294967296 2 n = numF N es (2 + 3 * j + 2) n := by
  unfold limF numF
  rw [if_neg (show ¬ 2 + 3 * j + 2 = 0 by omega), if_neg (show ¬ 2 + 3 * j + 2 = 1 by omega), if_pos (show (2 + 3 * j + 2 - 2) % 3 = 2 by omega)]
/-- The head. -/
theorem head_f0 {l : List ByteArray} {F : Int} (h0 : nextF l 0 (limF 1 4096 2) = F) (hF : F ≠ 0) : parseG l = (0, [], 0, F) := run_fail (k := 0) rfl (by omega) (Nat.zero_le _) (p_nodes 0 []) h0 hF
theorem head_s0 {l : List ByteArray} (h0 : nextF l 0 (limF 1 4096 2) = 0) : parseG l = runP l (l.length + 2 - 1) 1 2 (nextV l 0) [] := run_next (k := 0) rfl (by omega) (p_nodes 0 []) h0
theorem head_f1 {l : List ByteArray} {F : Int} (h0 : nextF l 0 (limF 1 4096 2) = 0) (h1 : nextF l 1 (limF 0 16384 5) = F) (hF : F ≠ 0) : parseG l = (0, [], 1, F) := run_fail (k := 1) (head_s0 h0) (by omega) (next_lt h0) (p_edges _ []) h1 hF
theorem head_s1 {l : List ByteArray} (h0 : nextF l 0 (limF 1 4096 2) = 0) (h1 : nextF l 1 (limF 0 16384 5) = 0) : parseG l = runP l (l.length + 2 - 2) 2 (2 + 3 * nextV l 1) (nextV l 0) [] := run_next (k := 1) (head_s0 h0) (by omega) (p_edges _ []) h1
section
variable {l : List ByteArray} {j M hi : Nat} {es : List Ed} {F : Int}
theorem edge_f0 (h : parseG l = runP l (l.length + 2 - (2 + 3 * j)) (2 + 3 * j) (2 + 3 * M) (hi + 1) es) (hj : j < M) (hl : 2 + 3 * j ≤ l.length) (h0 : nextF l (2 + 3 * j) (limF 0 hi 7) = F) (hF : F ≠ 0) : parseG l = (0, [], ((2 + 3 * j : Nat) : Int), F) :=
  run_fail h (by omega) hl (p_from hi j es) h0 hF
theorem edge_s0 (h : parseG l = runP l (l.length + 2 - (2 + 3 * j)) (2 + 3 * j) (2 + 3 * M) (hi + 1) es) (hj : j < M) (h0 : nextF l (2 + 3 * j) (limF 0 hi 7) = 0) :
    parseG l = runP l (l.length + 2 - (2 + 3 * j + 1)) (2 + 3 * j + 1) (2 + 3 * M) (hi + 1) (es ++ [⟨(nextV l (2 + 3 * j) : Nat), 0, 0⟩]) := by
  have := run_next h (by omega) (p_from hi j es) h0
  rw [if_neg (by omega)] at this
  unfold takeN takeE at this
  rw [if_neg (show ¬ 2 + 3 * j = 0 by omega), if_neg (show ¬ 2 + 3 * j < 2 by omega), if_pos (show (2 + 3 * j - 2) % 3 = 0 by omega)] at this
  exact this
theorem edge_f1 (h : parseG l = runP l (l.length + 2 - (2 + 3 * j)) (2 + 3 * j) (2 + 3 * M) (hi + 1) es) (hj : j < M) (h0 : nextF l (2 + 3 * j) (limF 0 hi 7) = 0) (h1 : nextF l (2 + 3 * j + 1) (othF (nextV l (2 + 3 * j)) 0 hi 7) = F) (hF : F ≠ 0) : parseG l = (0, [], ((2 + 3 * j + 1 : Nat) : Int), F) :=
  run_fail (edge_s0 h hj h0) (by omega) (next_lt h0) (p_to hi j _ es) h1 hF
theorem edge_s1 (h : parseG l = runP l (l.length + 2 - (2 + 3 * j)) (2 + 3 * j) (2 + 3 * M) (hi + 1) es) (hj : j < M) (h0 : nextF l (2 + 3 * j) (limF 0 hi 7) = 0) (h1 : nextF l (2 + 3 * j + 1) (othF (nextV l (2 + 3 * j)) 0 hi 7) = 0) :
    parseG l = runP l (l.length + 2 - (2 + 3 * j + 2)) (2 + 3 * j + 2) (2 + 3 * M) (hi + 1) (es ++ [⟨(nextV l (2 + 3 * j) : Nat), (nextV l (2 + 3 * j + 1) : Nat), 0⟩]) := by
  have := run_next (edge_s0 h hj h0) (by omega) (p_to hi j _ es) h1
  rw [if_neg (by omega)] at this
  unfold takeN takeE at this
  rw [if_neg (show ¬ 2 + 3 * j + 1 = 0 by omega), if_neg (show ¬ 2 + 3 * j + 1 < 2 by omega), if_neg (show ¬ (2 + 3 * j + 1 - 2) % 3 = 0 by omega), if_pos (show (2 + 3 * j + 1 - 2) % 3 = 1 by omega), modify_last] at this
  exact this
theorem edge_f2 (h : parseG l = runP l (l.length + 2 - (2 + 3 * j)) (2 + 3 * j) (2 + 3 * M) (hi + 1) es) (hj : j < M) (h0 : nextF l (2 + 3 * j) (limF 0 hi 7) = 0) (h1 : nextF l (2 + 3 * j + 1) (othF (nextV l (2 + 3 * j)) 0 hi 7) = 0) (h2 : nextF l (2 + 3 * j + 2) (limF 1 4294967296 2) = F) (hF : F ≠ 0) : parseG l = (0, [], ((2 + 3 * j + 2 : Nat) : Int), F) :=
  run_fail (edge_s1 h hj h0 h1) (by omega) (next_lt h1) (p_weight _ j _) h2 hF
theorem edge_s2 (h : parseG l = runP l (l.length + 2 - (2 + 3 * j)) (2 + 3 * j) (2 + 3 * M) (hi + 1) es) (hj : j < M) (h0 : nextF l (2 + 3 * j) (limF 0 hi 7) = 0) (h1 : nextF l (2 + 3 * j + 1) (othF (nextV l (2 + 3 * j)) 0 hi 7) = 0) (h2 : nextF l (2 + 3 * j + 2) (limF 1 4294967296 2) = 0) :
    parseG l = runP l (l.length + 2 - (2 + 3 * (j + 1))) (2 + 3 * (j + 1)) (2 + 3 * M) (hi + 1) (es ++ [⟨(nextV l (2 + 3 * j) : Nat), (nextV l (2 + 3 * j + 1) : Nat), nextV l (2 + 3 * j + 2)⟩]) := by
  have := run_next (edge_s1 h hj h0 h1) (by omega) (p_weight _ j _) h2
  rw [if_neg (by omega)] at this
  unfold takeN takeE at this
  rw [if_neg (show ¬ 2 + 3 * j + 2 = 0 by omega), if_neg (show ¬ 2 + 3 * j + 2 < 2 by omega), if_neg (show ¬ (2 + 3 * j + 2 - 2) % 3 = 0 by omega), if_neg (show ¬ (2 + 3 * j + 2 - 2) % 3 = 1 by omega), modify_last] at this
  exact this
end
end Go.Proofs.YtlecidgfchaonaaDoor

namespace Go.Proofs.YtlecidgfchaonaaDoor
open Go.RowKit
/-- Where head fails: which word, and why. -/
def HeadBad (l : List ByteArray) (K : Nat) (F : Int) : Prop := ∀ (R c D M0 : Nat) (a : Option Addr) (v : Value) (w : World), RdAt w R (.slice a l.length c) 0 → WdAt w R a l → DrAt w D 0 v M0 → D ≠ R →
  Calls Tryd.prog 30 #[.pointer (some ⟨D, 0, none⟩), nextVal R] w fun e w' => e = .returned (.int .i64 F) ∧ RdAt w' R (.slice a l.length c) K ∧ ∀ B, B ≤ w.heap.size → B ≤ R → B ≤ D → Below B w w'
def HeadGood (l : List ByteArray) (N M : Nat) : Prop := ∀ (R c D M0 : Nat) (a : Option Addr) (v : Value) (w : World), RdAt w R (.slice a l.length c) 0 → WdAt w R a l → DrAt w D 0 v M0 → D ≠ R →
  Calls Tryd.prog 30 #[.pointer (some ⟨D, 0, none⟩), nextVal R] w fun e w' => e = .returned (.int .i64 0) ∧ RdAt w' R (.slice a l.length c) 2 ∧ DrAt w' D N v M ∧ Kept R D w.heap.size w w' ∧ ∀ B, B ≤ w.heap.size → B ≤ R → B ≤ D → Below B w w'
theorem head_case (l : List ByteArray) (hl : l.length ≤ 1000000) (hx : ∀ x ∈ l, x.size ≤ maxLen) :
    (∃ F K, F ≠ 0 ∧ parseG l = (0, [], ((K : Nat) : Int), F) ∧ HeadBad l K F) ∨ (∃ hi M, hi + 1 ≤ 4096 ∧ M ≤ 16384 ∧ 2 ≤ l.length ∧ parseG l = runP l (l.length + 2 - 2) 2 (2 + 3 * M) (hi + 1) [] ∧ HeadGood l (hi + 1) M) := by
  by_cases h0 : nextF l 0 (limF 1 4096 2) = 0
  · by_cases h1 : nextF l 1 (limF 0 16384 5) = 0
    · right
      have b0 := next_lim_le (by decide) h0
      have b1 := next_lim_le (by decide) h1
      obtain ⟨hi, hh⟩ : ∃ hi, nextV l 0 = hi + 1 := ⟨nextV l 0 - 1, by omega⟩
      refine ⟨hi, nextV l 1, by omega, by omega, next_lt h1, by rw [← hh]; exact head_s1 h0 h1, fun R c D M0 a v w hr hw hd hDR => ?_⟩
      rw [← hh]
      exact head_good l hl hx R c D M0 a v h0 h1 w hr hw hd hDR
    · left
      exact ⟨_, 1, h1, head_f1 h0 rfl h1, fun R c D M0 a v w hr hw hd hDR => (head_bad1 l hl hx R c D M0 a v _ h0 rfl h1 w hr hw hd hDR).mono fun e w' h => ⟨h.1, h.2.1, h.2.2.2⟩⟩
  · left
    exact ⟨_, 0, h0, head_f0 rfl h0, fun R c D M0 a v w hr hw hd hDR => (head_bad0 l hl hx R c D M0 a v _ rfl h0 w hr hw hd hDR).mono fun e w' h => ⟨h.1, h.2.1, h.2.2.2⟩⟩
/-- Where edge fails, and where it does not. -/
def EdgeBad (l : List ByteArray) (k N M K : Nat) (F : Int) : Prop := ∀ (R c D : Nat) (a : Option Addr) (v : Value) (w : World), RdAt w R (.slice a l.length c) k → WdAt w R a l → DrAt w D N v M → D ≠ R →
  Calls Tryd.prog 33 #[.pointer (some ⟨D, 0, none⟩), nextVal R] w fun e w' => e = .returned (.int .i64 F) ∧ RdAt w' R (.slice a l.length c) K ∧ w.grownBy w' (some R)
def EdgeGood (l : List ByteArray) (k N M : Nat) (x : Ed) : Prop := ∀ (R c D base n : Nat) (es : List Ed) (a : Option Addr) (v : Value) (w : World), RdAt w R (.slice a l.length c) k → WdAt w R a l → DrAt w D N v M → D ≠ R → es.length = n → n ≤ 20000 → w.ownsRow base 43 3 v n (flat es) → some R ≠ v.ownBlock → D < base → base ≤ w.heap.size →
  Calls Tryd.prog 33 #[.pointer (some ⟨D, 0, none⟩), nextVal R] w fun e w' => ∃ v', e = .returned (.int .i64 0) ∧ RdAt w' R (.slice a l.length c) (k + 3) ∧ DrAt w' D N v' M ∧ w'.ownsRow base 43 3 v' (n + 1) (flat (es ++ [x])) ∧ base ≤ w'.heap.size ∧ Kept R D base w w' ∧ ∀ B, B ≤ w.heap.size → B ≤ R → B ≤ D → B ≤ base → Below B w w'
theorem edge_case (l : List ByteArray) (hl : l.length ≤ 1000000) (hx : ∀ x ∈ l, x.size ≤ maxLen) {j M hi : Nat} {es : List Ed} (hN : hi + 1 ≤ 4096) (h : parseG l = runP l (l.length + 2 - (2 + 3 * j)) (2 + 3 * j) (2 + 3 * M) (hi + 1) es) (hj : j < M) (hlj : 2 + 3 * j ≤ l.length) :
    (∃ F K, F ≠ 0 ∧ parseG l = (0, [], ((K : Nat) : Int), F) ∧ EdgeBad l (2 + 3 * j) (hi + 1) M K F) ∨ (∃ x, 2 + 3 * (j + 1) ≤ l.length ∧ parseG l = runP l (l.length + 2 - (2 + 3 * (j + 1))) (2 + 3 * (j + 1)) (2 + 3 * M) (hi + 1) (es ++ [x]) ∧ EdgeGood l (2 + 3 * j) (hi + 1) M x) := by
  by_cases h0 : nextF l (2 + 3 * j) (limF 0 hi 7) = 0
  · by_cases h1 : nextF l (2 + 3 * j + 1) (othF (nextV l (2 + 3 * j)) 0 hi 7) = 0
    · by_cases h2 : nextF l (2 + 3 * j + 2) (limF 1 4294967296 2) = 0
      · right
        refine ⟨_, by have := next_lt h2; omega, edge_s2 h hj h0 h1 h2, fun R c D base n es' a v w hr hw hd hDR hn hnm hown hRv hDb hbw => ?_⟩
        exact edge_good l hl hx R (2 + 3 * j) c D (hi + 1) hi M hlj a v rfl hN h0 h1 h2 w hr hw hd hDR base n es' hn hnm hown hRv hDb hbw
      · left
        exact ⟨_, _, h2, edge_f2 h hj h0 h1 rfl h2, fun R c D a v w hr hw hd hDR => (edge_bad2 l hl hx R (2 + 3 * j) c D (hi + 1) hi M hlj a v rfl hN _ h0 h1 rfl h2 w hr hw hd hDR).mono fun e w' h => ⟨h.1, h.2.1, h.2.2.2⟩⟩
    · left
      exact ⟨_, _, h1, edge_f1 h hj h0 rfl h1, fun R c D a v w hr hw hd hDR => (edge_bad1 l hl hx R (2 + 3 * j) c D (hi + 1) hi M hlj a v rfl hN _ h0 rfl h1 w hr hw hd hDR).mono fun e w' h => ⟨h.1, h.2.1, h.2.2.2⟩⟩
  · left
    exact ⟨_, _, h0, edge_f0 h hj hlj rfl h0, fun R c D a v w hr hw hd hDR => (edge_bad0 l hl hx R (2 + 3 * j) c D (hi + 1) hi M hlj a v rfl hN _ rfl h0 w hr hw hd hDR).mono fun e w' h => ⟨h.1, h.2.1, h.2.2.2⟩⟩
end Go.Proofs.YtlecidgfchaonaaDoor
