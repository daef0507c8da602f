import Derived.Test.YtlecidgfchaonaaDoorRows
import Derived.WalkKit
import Derived.Lib.IndexMore
import Derived.Lib.Join
import Derived.Lib.Strings
import Derived.ProofKit
import Derived.OpenShut
import Derived.Lib.Hide
import Derived.WalkLawsBesides
import Derived.WalkSpells
import Derived.Laws.IdiomStrings
import Derived.Laws.OwnMore
import Derived.OwnWalk
import Derived.ScopeJumps
import Derived.Test.YtlecidgfchaonaaDoorMA
set_option linter.unusedVariables false
set_option linter.unusedSimpArgs false
namespace Go.Proofs.YtlecidgfchaonaaDoor
open Go.RowKit
/-- Is this a byte of words? a space, or a tab? -/
def wb (c : UInt8) : Bool := decide (33 ≤ c.toNat) && decide (c.toNat ≤ 126)
def sb (c : UInt8) : Bool := decide (c.toNat = 32) || decide (c.toNat = 9)
def rightB (s : ByteArray) : Bool := s.data.toList.all wb && decide (0 < s.size)
/-- The words of what is left, behind the words ws and the bytes cur of one that has begun. -/
def wfold : List UInt8 → List ByteArray → List UInt8 → Option (List ByteArray)
  | [], ws, cur => some (if cur = [] then ws else ws ++ [⟨cur.toArray⟩])
  | c :: r, ws, cur => if wb c = true then wfold r ws (cur ++ [c]) else if sb c = true then wfold r (if cur = [] then ws else ws ++ [⟨cur.toArray⟩]) [] else none
def wordsOf (s : ByteArray) : Option (List ByteArray) := wfold s.data.toList [] []
def wordsV (s : ByteArray) : List ByteArray := if 65536 < s.size then [] else match wordsOf s with | none => [] | some ws => if 16384 < ws.length then [] else ws
def wordsF (s : ByteArray) : Int := if 65536 < s.size then 5 else match wordsOf s with | none => 3 | some ws => if 16384 < ws.length then 5 else 0
def wat (s : ByteArray) (i : Nat) (ws : List ByteArray) (f : Nat) : Option (List ByteArray) := wfold (s.data.toList.drop i) ws (s.extract f i).data.toList
theorem ext_nil (s : ByteArray) (i : Nat) : (s.extract i i).data.toList = [] := by
  rw [Lib.extract_data]; simp
theorem drop_cons (s : ByteArray) {i : Nat} (hi : i < s.size) : s.data.toList.drop i = s[i] :: s.data.toList.drop (i + 1) := by
  have hl : i < s.data.toList.length := by rw [← Lib.size_eq]; exact hi
  rw [List.drop_eq_getElem_cons hl]
  rfl
theorem ext_snoc (s : ByteArray) {f i : Nat} (hf : f ≤ i) (hi : i < s.size) : (s.extract f (i + 1)).data.toList = (s.extract f i).data.toList ++ [s[i]] := by
  have hl : i < s.data.toList.length := by rw [← Lib.size_eq]; exact hi
  rw [Lib.extract_data, Lib.extract_data, show i + 1 - f = (i - f) + 1 by omega, List.take_add_one]
  congr 1
  rw [List.getElem?_drop, show f + (i - f) = i by omega, List.getElem?_eq_getElem hl]
  rfl
theorem ext_ne (s : ByteArray) {f i : Nat} (hf : f < i) (hi : i ≤ s.size) : (s.extract f i).data.toList ≠ [] := by
  intro h
  have h2 := congrArg List.length h
  rw [← Lib.size_eq, ByteArray.size_extract] at h2
  simp at h2
  omega
theorem wat_zero (s : ByteArray) : wat s 0 [] 0 = wordsOf s := by
  unfold wat wordsOf
  rw [ext_nil, List.drop_zero]
theorem wat_word {s : ByteArray} {i f : Nat} {ws : List ByteArray} (hi : i < s.size) (hw : wb s[i] = true) (hf : f ≤ i) : wat s i ws f = wat s (i + 1) ws f := by
  unfold wat
  rw [drop_cons s hi, ext_snoc s hf hi, wfold, if_pos hw]
theorem wat_space {s : ByteArray} {i f : Nat} {ws : List ByteArray} (hi : i < s.size) (hw : wb s[i] = false) (hb : sb s[i] = true) (hf : f < i) : wat s i ws f = wat s (i + 1) (ws ++ [s.extract f i]) (i + 1) := by
  unfold wat
  rw [drop_cons s hi, wfold, if_neg (by simp [hw]), if_pos hb, if_neg (ext_ne s hf (by omega)), ext_nil, Lib.mk_data]
theorem wat_space0 {s : ByteArray} {i : Nat} {ws : List ByteArray} (hi : i < s.size) (hw : wb s[i] = false) (hb : sb s[i] = true) : wat s i ws i = wat s (i + 1) ws (i + 1) := by
  unfold wat
  rw [drop_cons s hi, wfold, if_neg (by simp [hw]), if_pos hb, if_pos (ext_nil s i), ext_nil]
theorem wat_bad {s : ByteArray} {i f : Nat} {ws : List ByteArray} (hi : i < s.size) (hw : wb s[i] = false) (hb : sb s[i] = false) : wat s i ws f = none := by
  unfold wat
  rw [drop_cons s hi, wfold, if_neg (by simp [hw]), if_neg (by simp [hb])]
theorem wat_end {s : ByteArray} {f : Nat} {ws : List ByteArray} (hf : f < s.size) : wat s s.size ws f = some (ws ++ [s.extract f s.size]) := by
  unfold wat
  rw [List.drop_eq_nil_of_le (by rw [Lib.size_eq]; exact Nat.le_refl _), wfold, if_neg (ext_ne s hf (Nat.le_refl _)), Lib.mk_data]
theorem wat_end0 {s : ByteArray} {ws : List ByteArray} : wat s s.size ws s.size = some ws := by
  unfold wat
  rw [List.drop_eq_nil_of_le (by rw [Lib.size_eq]; exact Nat.le_refl _), wfold, if_pos (ext_nil s _)]
theorem wat_push {s : ByteArray} {i f : Nat} {ws : List ByteArray} (hf : f < i) (hi : i ≤ s.size) (h : ∀ (hlt : i < s.size), wb s[i] = false) : wat s i ws f = wat s i (ws ++ [s.extract f i]) i := by
  by_cases hlt : i < s.size
  · have hw := h hlt
    cases hb : sb s[i]
    · rw [wat_bad hlt hw hb, wat_bad hlt hw hb]
    · rw [wat_space hlt hw hb hf, wat_space0 hlt hw hb]
  · obtain rfl : i = s.size := by omega
    rw [wat_end hf, wat_end0]
/-- WORDS THAT ARE JOINED ARE FOUND AGAIN. -/
theorem wfold_word : ∀ (x r cur : List UInt8) (ws : List ByteArray), x.all wb = true → wfold (x ++ r) ws cur = wfold r ws (cur ++ x)
  | [], r, cur, ws, _ => by simp
  | c :: x, r, cur, ws, h => by
    rw [List.all_cons, Bool.and_eq_true] at h
    rw [List.cons_append, wfold, if_pos h.1, wfold_word x r (cur ++ [c]) ws h.2]
    simp
theorem right_ne {s : ByteArray} (h : rightB s = true) : s.data.toList ≠ [] ∧ s.data.toList.all wb = true := by
  unfold rightB at h
  rw [Bool.and_eq_true, decide_eq_true_eq] at h
  refine ⟨fun e => ?_, h.1⟩
  have := h.2
  rw [Lib.size_eq, e] at this
  simp at this
theorem wfold_tail : ∀ (l : List ByteArray) (ws : List ByteArray) (cur : List UInt8), cur ≠ [] → (∀ x ∈ l, rightB x = true) →
    wfold (Lib.joinTail [32] (l.map (·.data.toList))) ws cur = some (ws ++ [⟨cur.toArray⟩] ++ l)
  | [], ws, cur, hc, _ => by
    simp [Lib.joinTail, wfold, hc]
  | y :: l, ws, cur, hc, h => by
    obtain ⟨h1, h2⟩ := right_ne (h y (by simp))
    have e : Lib.joinTail [32] ((y :: l).map (·.data.toList)) = 32 :: (y.data.toList ++ Lib.joinTail [32] (l.map (·.data.toList))) := by simp [Lib.joinTail]
    rw [e, wfold, if_neg (by decide), if_pos (by decide), if_neg hc, wfold_word _ _ _ _ h2, List.nil_append, wfold_tail l _ _ h1 (fun x hx => h x (by simp [hx])), Lib.mk_data]
    simp
def joinB (l : List ByteArray) : ByteArray := ⟨(Lib.join (l.map (·.data.toList)) [32]).toArray⟩
theorem words_join (l : List ByteArray) (h : ∀ x ∈ l, rightB x = true) : wordsOf (joinB l) = some l := by
  cases l with
  | nil => rfl
  | cons x r =>
    obtain ⟨h1, h2⟩ := right_ne (h x (by simp))
    have e : (joinB (x :: r)).data.toList = x.data.toList ++ Lib.joinTail [32] (r.map (·.data.toList)) := by
      unfold joinB
      rw [List.map_cons, Lib.join_cons]
    unfold wordsOf
    rw [e, wfold_word _ _ _ _ h2, List.nil_append, wfold_tail r _ _ h1 (fun y hy => h y (by simp [hy])), Lib.mk_data]
    simp
/-- How many bytes so many words take, each with one behind it. -/
def lens1 (l : List ByteArray) : Nat := (l.map (fun x => x.size + 1)).sum
theorem lens_eq (l : List ByteArray) : Lib.lens (l.map (·.data.toList)) + l.length = lens1 l := by
  induction l with
  | nil => rfl
  | cons x r ih =>
    simp only [lens1, List.map_cons, List.sum_cons, List.length_cons] at ih ⊢
    rw [← ih, Lib.size_eq]
    simp [Lib.lens]
    omega
theorem join_size (x : ByteArray) (r : List ByteArray) : (joinB (x :: r)).size + 1 = lens1 (x :: r) := by
  have h := Lib.join_length x.data.toList (r.map (·.data.toList)) [32]
  rw [← lens_eq]
  have e : (joinB (x :: r)).size = (Lib.join (x.data.toList :: r.map (·.data.toList)) [32]).length := by
    unfold joinB
    rw [Lib.size_eq]
    rfl
  rw [e, h]
  simp
  omega
def fitB (l : List ByteArray) : Bool := decide (lens1 l ≤ 65537)
theorem fit_join (l : List ByteArray) : fitB l = decide ((joinB l).size ≤ 65536) := by
  cases l with
  | nil => rfl
  | cons x r =>
    unfold fitB
    rw [← join_size]
    by_cases h : (joinB (x :: r)).size ≤ 65536
    · rw [decide_eq_true h, decide_eq_true (by omega)]
    · rw [decide_eq_false h, decide_eq_false (by omega)]
def joinOk (l : List ByteArray) : Bool := decide (l.length ≤ 16384) && fitB l
def joinV (l : List ByteArray) : ByteArray := if l.all rightB = true then if joinOk l = true then joinB l else ⟨#[]⟩ else ⟨#[]⟩
def joinF (l : List ByteArray) : Int := if l.all rightB = true then if joinOk l = true then 0 else 5 else 1
theorem joinF_ok {l : List ByteArray} (h : joinF l = 0) : l.all rightB = true ∧ joinOk l = true ∧ joinV l = joinB l := by
  unfold joinF at h
  unfold joinV
  split at h
  · rename_i h1
    split at h
    · rename_i h2
      exact ⟨h1, h2, by rw [if_pos h1, if_pos h2]⟩
    · omega
  · omega
theorem back_words {l : List ByteArray} (h : joinF l = 0) : wordsV (joinV l) = l ∧ wordsF (joinV l) = 0 := by
  obtain ⟨h1, h2, h3⟩ := joinF_ok h
  rw [h3]
  unfold joinOk at h2
  rw [fit_join, Bool.and_eq_true, decide_eq_true_eq, decide_eq_true_eq] at h2
  have e := words_join l (fun x hx => List.all_eq_true.1 h1 x hx)
  unfold wordsV wordsF
  rw [e, if_neg (by omega), if_neg (by omega)]
  simp only
  rw [if_neg (by omega), if_neg (by omega)]
  exact ⟨rfl, rfl⟩
/-- Letters a to z made capital ones. -/
def up1 (c : UInt8) : UInt8 := if 97 ≤ c.toNat ∧ c.toNat ≤ 122 then c - 32 else c
def upB (s : ByteArray) : ByteArray := ⟨(s.data.toList.map up1).toArray⟩
/-- LINES. -/
def nl (s : ByteArray) : Int := Lib.index s.data.toList [10]
def bareB (s : ByteArray) : ByteArray := ⟨(Lib.trimSuffix s.data.toList [13]).toArray⟩
def linesN : Nat → ByteArray → List ByteArray × ByteArray
  | 0, t => ([], t)
  | n + 1, t => if 0 ≤ nl t then (bareB (t.extract 0 (nl t).toNat) :: (linesN n (t.extract ((nl t).toNat + 1) t.size)).1, (linesN n (t.extract ((nl t).toNat + 1) t.size)).2) else ([], t)
def linesOf (t : ByteArray) : List ByteArray × ByteArray := linesN t.size t
/-- Where the first line feed lies among the first k bytes. -/
def NoLf (s : ByteArray) (k : Nat) : Prop := ∀ j (hj : j < s.size), j < k → s[j] ≠ 10
theorem occ_at10 (s : ByteArray) (j : Nat) : Lib.occAt s.data.toList [10] j = if h : j < s.size then (10 : UInt8) == s[j] else false := by
  unfold Lib.occAt
  by_cases h : j < s.size
  · rw [drop_cons s h, dif_pos h]
    simp [List.isPrefixOf]
  · rw [dif_neg h, List.drop_eq_nil_of_le (by rw [← Lib.size_eq]; omega)]
    rfl
theorem nl_none {s : ByteArray} (h : NoLf s s.size) : nl s = -1 := by
  refine Lib.index_none fun j hj => ?_
  rw [occ_at10]
  split
  · rename_i h1
    rw [beq_eq_false_iff_ne]
    exact fun x => h j h1 h1 x.symm
  · rfl
theorem nl_some {s : ByteArray} {i : Nat} (hi : i < s.size) (h : NoLf s i) (he : s[i] = 10) : nl s = i := by
  refine Lib.index_first (by rw [← Lib.size_eq]; omega) ?_ fun k hk => ?_
  · rw [occ_at10, dif_pos hi, he]; rfl
  · rw [occ_at10, dif_pos (by omega), beq_eq_false_iff_ne]
    exact fun x => h k (by omega) hk x.symm
theorem NoLf.mono {s : ByteArray} {k m : Nat} (h : NoLf s k) (hm : m ≤ k) : NoLf s m := fun j hj hlt => h j hj (by omega)
theorem NoLf.succ {s : ByteArray} {k : Nat} (h : NoLf s k) (hk : k < s.size) (hn : s[k] ≠ 10) : NoLf s (k + 1) := fun j hj hlt => by
  by_cases e : j = k
  · subst e; exact hn
  · exact h j hj (by omega)
theorem nl_cases (s : ByteArray) : (nl s = -1 ∧ NoLf s s.size) ∨ ∃ (i : Nat) (hi : i < s.size), nl s = i ∧ s[i] = 10 ∧ NoLf s i := by
  have key : ∀ k, k ≤ s.size → NoLf s k ∨ ∃ (i : Nat) (hi : i < s.size), s[i] = 10 ∧ NoLf s i := by
    intro k
    induction k with
    | zero => exact fun _ => Or.inl fun j _ h => by omega
    | succ k ih =>
      intro hk
      rcases ih (by omega) with h | h
      · by_cases e : s[k] = 10
        · exact Or.inr ⟨k, by omega, e, h⟩
        · exact Or.inl (h.succ (by omega) e)
      · exact Or.inr h
  rcases key s.size (Nat.le_refl _) with h | ⟨i, hi, e, h⟩
  · exact Or.inl ⟨nl_none h, h⟩
  · exact Or.inr ⟨i, hi, nl_some hi h e, e, h⟩
theorem linesN_enough : ∀ (n : Nat) (t : ByteArray), t.size ≤ n → linesN n t = linesOf t := by
  have key : ∀ (m n : Nat) (t : ByteArray), t.size ≤ m → t.size ≤ n → linesN m t = linesN n t := by
    intro m
    induction m with
    | zero =>
      intro n t h1 h2
      cases n with
      | zero => rfl
      | succ n =>
        rcases nl_cases t with ⟨h, _⟩ | ⟨i, hi, _⟩
        · rw [linesN, linesN, if_neg (by omega)]
        · omega
    | succ m ih =>
      intro n t h1 h2
      rcases nl_cases t with ⟨h, _⟩ | ⟨i, hi, h, _⟩
      · cases n with
        | zero => rw [linesN, linesN, if_neg (by omega)]
        | succ n => rw [linesN, linesN, if_neg (by omega), if_neg (by omega)]
      · cases n with
        | zero => omega
        | succ n =>
          have hz : (t.extract ((nl t).toNat + 1) t.size).size ≤ t.size - 1 := by rw [ByteArray.size_extract]; omega
          rw [linesN, linesN, if_pos (by omega), if_pos (by omega), ih n _ (by omega) (by omega)]
  exact fun n t h => key n t.size t h (Nat.le_refl _)
theorem lines_miss {t : ByteArray} (h : NoLf t t.size) : linesOf t = ([], t) := by
  have := nl_none h
  unfold linesOf
  cases t.size with
  | zero => rfl
  | succ n => rw [linesN, if_neg (by omega)]
theorem lines_hit {t : ByteArray} {i : Nat} (hi : i < t.size) (h : NoLf t i) (he : t[i] = 10) :
    linesOf t = (bareB (t.extract 0 i) :: (linesOf (t.extract (i + 1) t.size)).1, (linesOf (t.extract (i + 1) t.size)).2) := by
  have e := nl_some hi h he
  have hz : (t.extract (i + 1) t.size).size = t.size - (i + 1) := by rw [ByteArray.size_extract]; omega
  obtain ⟨n, hn⟩ : ∃ n, t.size = n + 1 := ⟨t.size - 1, by omega⟩
  have e1 : linesOf t = linesN (n + 1) t := by unfold linesOf; rw [hn]
  rw [e1, linesN, e, if_pos (by omega)]
  simp only [Int.toNat_natCast]
  rw [linesN_enough n _ (by omega)]
theorem lines_len (t : ByteArray) : (linesOf t).1.length ≤ t.size := by
  have key : ∀ n (t : ByteArray), t.size ≤ n → (linesOf t).1.length ≤ t.size := by
    intro n
    induction n with
    | zero =>
      intro t h
      rw [lines_miss (fun j hj => by omega)]
      simp
    | succ n ih =>
      intro t h
      rcases nl_cases t with ⟨_, h1⟩ | ⟨i, hi, _, e, h1⟩
      · rw [lines_miss h1]; simp
      · rw [lines_hit hi h1 e]
        have hz : (t.extract (i + 1) t.size).size = t.size - (i + 1) := by rw [ByteArray.size_extract]; omega
        have := ih (t.extract (i + 1) t.size) (by omega)
        simp only [List.length_cons]
        omega
  exact key t.size t (Nat.le_refl _)
/-- The first line, what is behind it, and whether there is one. -/
def cutL (t : ByteArray) : ByteArray := if 0 ≤ nl t then bareB (t.extract 0 (nl t).toNat) else ⟨#[]⟩
def cutR (t : ByteArray) : ByteArray := if 0 ≤ nl t then t.extract ((nl t).toNat + 1) t.size else t
def cutIs (t : ByteArray) : Bool := decide (0 ≤ nl t)
/-- LINES, WITH THEIR ENDS, AND WHAT IS LEFT ARE THE TEXT. -/
def allOf (l : List ByteArray) : List UInt8 := l.flatMap (fun x => x.data.toList ++ [10])
theorem trim_no (l : List UInt8) (h : ∀ c ∈ l, c ≠ 13) : Lib.trimSuffix l [13] = l := by
  unfold Lib.trimSuffix
  split
  · rename_i hs
    exfalso
    unfold Lib.hasSuffix at hs
    rw [List.isSuffixOf_iff_suffix] at hs
    exact h 13 (hs.subset (by simp)) rfl
  · rfl
theorem bare_no {s : ByteArray} (h : ∀ c ∈ s.data.toList, c ≠ 13) : bareB s = s := by
  unfold bareB
  rw [trim_no _ h, Lib.mk_data]
theorem all_back (t : ByteArray) (hn : ∀ c ∈ t.data.toList, c ≠ 13) : allOf (linesOf t).1 ++ (linesOf t).2.data.toList = t.data.toList := by
  have key : ∀ n (t : ByteArray), t.size ≤ n → (∀ c ∈ t.data.toList, c ≠ 13) → allOf (linesOf t).1 ++ (linesOf t).2.data.toList = t.data.toList := by
    intro n
    induction n with
    | zero =>
      intro t h _
      rw [lines_miss (fun j hj => by omega)]
      rfl
    | succ n ih =>
      intro t h hn
      rcases nl_cases t with ⟨_, h1⟩ | ⟨i, hi, _, e, h1⟩
      · rw [lines_miss h1]; rfl
      · rw [lines_hit hi h1 e]
        have hz : (t.extract (i + 1) t.size).size = t.size - (i + 1) := by rw [ByteArray.size_extract]; omega
        have e1 : (t.extract 0 i).data.toList = t.data.toList.take i := by rw [Lib.extract_data]; simp
        have e2 : (t.extract (i + 1) t.size).data.toList = t.data.toList.drop (i + 1) := by
          rw [Lib.extract_data]
          exact List.take_of_length_le (by rw [List.length_drop, ← Lib.size_eq]; omega)
        have n1 : ∀ c ∈ (t.extract 0 i).data.toList, c ≠ 13 := fun c hc => hn c (List.mem_of_mem_take (by rw [e1] at hc; exact hc))
        have n2 : ∀ c ∈ (t.extract (i + 1) t.size).data.toList, c ≠ 13 := fun c hc => hn c (List.mem_of_mem_drop (by rw [e2] at hc; exact hc))
        have := ih (t.extract (i + 1) t.size) (by omega) n2
        rw [bare_no n1]
        simp only [allOf, List.flatMap_cons] at this ⊢
        rw [List.append_assoc, this, e1, e2, List.append_assoc, List.singleton_append, ← e, ← drop_cons t hi, List.take_append_drop]
  exact key t.size t (Nat.le_refl _) hn
end Go.Proofs.YtlecidgfchaonaaDoor

namespace Go.Proofs.YtlecidgfchaonaaDoor
open Go.RowKit
/-- By a goto to a label: J of that label; every other way out: Q. -/
def jumps (J : Nat → Act → World → Prop) (Q : Exit → Act → World → Prop) : Exit → Act → World → Prop
  | .goto l, a, w => J l a w
  | e, a, w => Q e a w
/-- Whatever leaves a scope by no goto leaves what is around it in the same way. -/
theorem leave_scope {P : Program} {m : Machine} {b : Frame} {c : Code} {k : List Item} {cs : List Frame} {e : Exit} {a : Act} {w : World} (hn : ∀ l, e ≠ .goto l)
    (h : Arrives P m b (.inScope c :: k) cs e a w) : Arrives P m b k cs e a w := by
  cases e with
  | goto l => exact absurd rfl (hn l)
  | normal => exact h.trans (.one step_inScope)
  | exit id => exact fun k' hk => h k' (by rw [← hk]; rfl)
  | _ => exact h
/-- A SCOPE IN WHICH THE RUN JUMPS TO SEVERAL LABELS, with what holds at each (J) and a measure that each jump lowers. -/
theorem wp_scope_labels {P : Program} {a : Act} {w : World} {Q : Exit → Act → World → Prop} {c : Code} (J : Nat → Act → World → Prop) (μ : Nat → Act → World → Nat)
    (first : c.wp P (jumps J Q) a w)
    (pass : ∀ l a w, J l a w → ∃ rest, findLabel c l = some rest ∧ rest.wp P (jumps (fun l' a' w' => J l' a' w' ∧ μ l' a' w' < μ l a w) Q) a w) : (Code.scope c).wp P Q a w := by
  intro b k cs
  -- from any label on, by induction over the measure
  have go : ∀ n l a w rest, μ l a w ≤ n → J l a w → findLabel c l = some rest → ∃ e a' w', Q e a' w' ∧ Arrives P (lone (b.at a (.code rest :: .inScope c :: k)) cs w) b k cs e a' w' := by
    intro n
    induction n with
    | zero =>
      intro l a w rest hle hJ hf
      obtain ⟨r, hr, hwp⟩ := pass l a w hJ
      obtain rfl : r = rest := Option.some.inj (hr.symm.trans hf)
      obtain ⟨e, a₁, w₁, hq, hx⟩ := hwp b (.inScope c :: k) cs
      by_cases hg : ∃ l', e = .goto l'
      · obtain ⟨l', rfl⟩ := hg
        have hlt : μ l' a₁ w₁ < μ l a w := hq.2
        omega
      · refine ⟨e, a₁, w₁, ?_, leave_scope (fun l' h => hg ⟨l', h⟩) hx⟩
        cases e <;> first | exact hq | exact absurd ⟨_, rfl⟩ hg
    | succ n ih =>
      intro l a w rest hle hJ hf
      obtain ⟨r, hr, hwp⟩ := pass l a w hJ
      obtain rfl : r = rest := Option.some.inj (hr.symm.trans hf)
      obtain ⟨e, a₁, w₁, hq, hx⟩ := hwp b (.inScope c :: k) cs
      by_cases hg : ∃ l', e = .goto l'
      · obtain ⟨l', rfl⟩ := hg
        obtain ⟨hJ', hlt⟩ := hq
        obtain ⟨r2, hr2, _⟩ := pass l' a₁ w₁ hJ'
        obtain ⟨e₂, a₂, w₂, hq₂, hx₂⟩ := ih l' a₁ w₁ r2 (by omega) hJ' hr2
        exact ⟨e₂, a₂, w₂, hq₂, .of_steps (hx _ (by simp [gotoIn, hr2])) hx₂⟩
      · refine ⟨e, a₁, w₁, ?_, leave_scope (fun l' h => hg ⟨l', h⟩) hx⟩
        cases e <;> first | exact hq | exact absurd ⟨_, rfl⟩ hg
  obtain ⟨e, a₁, w₁, hq, hx⟩ := first b (.inScope c :: k) cs
  by_cases hg : ∃ l', e = .goto l'
  · obtain ⟨l', rfl⟩ := hg
    obtain ⟨r2, hr2, _⟩ := pass l' a₁ w₁ hq
    obtain ⟨e₂, a₂, w₂, hq₂, hx₂⟩ := go _ l' a₁ w₁ r2 (Nat.le_refl _) hq hr2
    exact ⟨e₂, a₂, w₂, hq₂, .of_steps (.head step_scope (hx _ (by simp [gotoIn, hr2]))) hx₂⟩
  · refine ⟨e, a₁, w₁, ?_, .of_steps (.one step_scope) (leave_scope (fun l' h => hg ⟨l', h⟩) hx)⟩
    cases e <;> first | exact hq | exact absurd ⟨_, rfl⟩ hg
theorem inword_any (c : UInt8) (w : World) :
    Calls Tryd.prog 64 #[.int .u8 c.toNat] w fun e w' => e = .returned (.bool (wb c)) ∧ w' = w := by
  unfold wb
  by_cases h1 : 33 ≤ c.toNat
  · by_cases h2 : c.toNat ≤ 126
    · rw [decide_eq_true h1, decide_eq_true h2]
      go_enter Tryd.func64, Tryd.ntmps64
      go_wp2
      go_ret
      exact ⟨by simp; omega, rfl⟩
    · rw [decide_eq_true h1, decide_eq_false h2]
      go_enter Tryd.func64, Tryd.ntmps64
      go_wp2
      go_ret
      exact ⟨by simp; omega, rfl⟩
  · rw [decide_eq_false h1]
    go_enter Tryd.func64, Tryd.ntmps64
    go_wp2
    go_ret
    exact ⟨by simp, rfl⟩
/-- All of the first k bytes are of words. -/
def AllW (s : ByteArray) (k : Nat) : Prop := ∀ j (hj : j < s.size), j < k → wb s[j] = true
theorem AllW.succ {s : ByteArray} {k : Nat} (h : AllW s k) (hk : k < s.size) (hw : wb s[k] = true) : AllW s (k + 1) := fun j hj hlt => by
  by_cases e : j = k
  · subst e; exact hw
  · exact h j hj (by omega)
theorem allW_all {s : ByteArray} (h : AllW s s.size) : s.data.toList.all wb = true := by
  rw [List.all_eq_true]
  intro x hx
  obtain ⟨i, hi, rfl⟩ := List.getElem_of_mem hx
  have hi' : i < s.size := by rw [Lib.size_eq]; exact hi
  exact h i hi' hi'
theorem right_no {s : ByteArray} {k : Nat} (hk : k < s.size) (hw : wb s[k] = false) : rightB s = false := by
  unfold rightB
  rw [Bool.and_eq_false_iff]
  left
  rw [List.all_eq_false]
  have hi : k < s.data.toList.length := by rw [← Lib.size_eq]; exact hk
  refine ⟨s.data.toList[k], List.getElem_mem hi, ?_⟩
  have e : s.data.toList[k] = s[k] := rfl
  rw [e, hw]
  simp
theorem right_yes {s : ByteArray} (h : AllW s s.size) : rightB s = decide (0 < s.size) := by
  unfold rightB
  rw [allW_all h, Bool.true_and]
theorem ne_empty (s : ByteArray) : (!s.toList.isEmpty) = decide (0 < s.size) := by
  rw [Lib.toList_data, Lib.size_eq]
  cases s.data.toList <;> simp
end Go.Proofs.YtlecidgfchaonaaDoor

namespace Go.Proofs.YtlecidgfchaonaaDoor
open Go.RowKit
/-- A SLICE VALUE THAT READS AS THESE STRINGS. -/
def StrsAt (w : World) (v : Value) (xs : List ByteArray) : Prop := ∃ (a : Option Addr) (c : Nat), v = .slice a xs.length c ∧ xs.length ≤ c ∧
  (0 < xs.length → ∃ b off, a = some ⟨b, off, none⟩ ∧ ∀ j x, xs[j]? = some x → w.cell? ⟨b, off + j, none⟩ = some (.string x))
theorem StrsAt.none (w : World) (a : Option Addr) (c : Nat) : StrsAt w (.slice a 0 c) [] := ⟨a, c, rfl, Nat.zero_le _, fun h => absurd h (by simp)⟩
theorem StrsAt.on {W w1 : World} (hb : Below W.heap.size W w1) {v : Value} {xs : List ByteArray} (h : StrsAt W v xs) : StrsAt w1 v xs := by
  obtain ⟨a, c, rfl, hc, h⟩ := h
  refine ⟨a, c, rfl, hc, fun h0 => ?_⟩
  obtain ⟨b, off, rfl, hcell⟩ := h h0
  exact ⟨b, off, rfl, fun j x hx => cell_on hb (hcell j x hx)⟩
theorem StrsAt.own {w : World} {B e : Nat} {v : Value} {ws : List ByteArray} (h : w.ownsRow B e 1 v ws.length (ws.map Value.string)) : StrsAt w v ws := by
  rcases h.2 with ⟨rfl, h0⟩ | ⟨g, cap, cur, rfl, hb, hg, hc, hm, hsz, htk⟩
  · have : ws = [] := List.length_eq_zero_iff.1 h0
    subst this
    exact StrsAt.none _ _ _
  · refine ⟨_, cap, rfl, hc, fun _ => ⟨g, 0, rfl, fun j x hx => ?_⟩⟩
    have hj : j < ws.length := (List.getElem?_eq_some_iff.1 hx).1
    have e1 := h.cellAt j (by omega)
    rw [List.getElem?_map, hx] at e1
    rw [Nat.zero_add]
    exact e1
theorem info9 : (Tryd.prog.info? 9).map (fun i => (i.zero, i.size, i.bytes)) = some (some (.string ⟨#[]⟩), 1, 16) := by kernel_rfl
theorem one_str (x : ByteArray) : ∀ u ∈ [Value.string x], u.oneCell' = true := by
  intro u hu
  rw [List.mem_singleton] at hu
  subst hu
  rfl
theorem own_snoc {w : World} {B e : Nat} {v : Value} {ws : List ByteArray} {x : ByteArray} (h : w.ownsRow B e 1 v (ws.length + 1) (ws.map Value.string ++ [Value.string x])) : w.ownsRow B e 1 v (ws ++ [x]).length ((ws ++ [x]).map Value.string) := by
  rw [List.length_append, List.map_append]
  exact h
theorem below_own {w wr w' : World} {e n : Nat} {xs : List Value} {v : Value} (hB : Below w.heap.size w wr) (hown : wr.ownsRow w.heap.size e 1 v n xs) (hg : wr.grownBy w' v.ownBlock) : Below w.heap.size w w' := by
  refine hB.grown hg hB.size fun j hj => ?_
  rcases hown.2 with ⟨rfl, _⟩ | ⟨g, cap, cur, rfl, hb, _⟩
  · cases hj
  · cases hj
    exact hb
/-- Where ref's loop stands: the words ws are there, one begins at f. -/
def RW (s : ByteArray) (k f : Nat) (ws : List ByteArray) : Prop := f ≤ k ∧ ws.length ≤ k ∧ ((k ≤ s.size ∧ wat s k ws f = wordsOf s) ∨ (k = s.size + 1 ∧ wordsOf s = some ws))
theorem rw_word {s : ByteArray} {k f : Nat} {ws : List ByteArray} (h : RW s k f ws) (hk : k < s.size) (hw : wb s[k] = true) : RW s (k + 1) f ws := by
  obtain ⟨h1, h2, h3⟩ := h
  refine ⟨by omega, by omega, Or.inl ⟨by omega, ?_⟩⟩
  rcases h3 with ⟨_, h3⟩ | ⟨h3, _⟩
  · rw [← h3, wat_word hk hw h1]
  · omega
theorem rw_space {s : ByteArray} {k f : Nat} {ws : List ByteArray} (h : RW s k f ws) (hk : k < s.size) (hw : wb s[k] = false) (hb : sb s[k] = true) (hf : f < k) : RW s (k + 1) (k + 1) (ws ++ [s.extract f k]) := by
  obtain ⟨h1, h2, h3⟩ := h
  refine ⟨by omega, by simp; omega, Or.inl ⟨by omega, ?_⟩⟩
  rcases h3 with ⟨_, h3⟩ | ⟨h3, _⟩
  · rw [← h3, wat_space hk hw hb hf]
  · omega
theorem rw_space0 {s : ByteArray} {k : Nat} {ws : List ByteArray} (h : RW s k k ws) (hk : k < s.size) (hw : wb s[k] = false) (hb : sb s[k] = true) : RW s (k + 1) (k + 1) ws := by
  obtain ⟨h1, h2, h3⟩ := h
  refine ⟨by omega, by omega, Or.inl ⟨by omega, ?_⟩⟩
  rcases h3 with ⟨_, h3⟩ | ⟨h3, _⟩
  · rw [← h3, wat_space0 hk hw hb]
  · omega
theorem rw_bad {s : ByteArray} {k f : Nat} {ws : List ByteArray} (h : RW s k f ws) (hk : k < s.size) (hw : wb s[k] = false) (hb : sb s[k] = false) : wordsOf s = none := by
  obtain ⟨h1, h2, h3⟩ := h
  rcases h3 with ⟨_, h3⟩ | ⟨h3, _⟩
  · rw [← h3, wat_bad hk hw hb]
  · omega
theorem rw_end {s : ByteArray} {f : Nat} {ws : List ByteArray} (h : RW s s.size f ws) (hf : f < s.size) : RW s (s.size + 1) (s.size + 1) (ws ++ [s.extract f s.size]) := by
  obtain ⟨h1, h2, h3⟩ := h
  refine ⟨by omega, by simp; omega, Or.inr ⟨rfl, ?_⟩⟩
  rcases h3 with ⟨_, h3⟩ | ⟨h3, _⟩
  · rw [← h3, wat_end hf]
  · omega
theorem rw_end0 {s : ByteArray} {ws : List ByteArray} (h : RW s s.size s.size ws) : RW s (s.size + 1) (s.size + 1) ws := by
  obtain ⟨h1, h2, h3⟩ := h
  refine ⟨by omega, by omega, Or.inr ⟨rfl, ?_⟩⟩
  rcases h3 with ⟨_, h3⟩ | ⟨h3, _⟩
  · rw [← h3, wat_end0]
  · omega
theorem rw_out {s : ByteArray} {f : Nat} {ws : List ByteArray} (h : RW s (s.size + 1) f ws) : wordsOf s = some ws := by
  rcases h.2.2 with ⟨h, _⟩ | ⟨_, h⟩
  · omega
  · exact h
theorem words_none {s : ByteArray} (hs : s.size ≤ 65536) (h : wordsOf s = none) : wordsV s = [] ∧ wordsF s = 3 := by
  unfold wordsV wordsF
  rw [h, if_neg (by omega), if_neg (by omega)]
  exact ⟨rfl, rfl⟩
theorem words_some {s : ByteArray} {ws : List ByteArray} (hs : s.size ≤ 65536) (h : wordsOf s = some ws) (hl : ws.length ≤ 16384) : wordsV s = ws ∧ wordsF s = 0 := by
  unfold wordsV wordsF
  rw [h, if_neg (by omega), if_neg (by omega)]
  simp only
  rw [if_neg (by omega), if_neg (by omega)]
  exact ⟨rfl, rfl⟩
theorem words_many {s : ByteArray} {ws : List ByteArray} (hs : s.size ≤ 65536) (h : wordsOf s = some ws) (hl : 16384 < ws.length) : wordsV s = [] ∧ wordsF s = 5 := by
  unfold wordsV wordsF
  rw [h, if_neg (by omega), if_neg (by omega)]
  simp only
  rw [if_pos (by omega), if_pos (by omega)]
  exact ⟨rfl, rfl⟩
theorem words_long {s : ByteArray} (hs : 65536 < s.size) : wordsV s = [] ∧ wordsF s = 5 := by
  unfold wordsV wordsF
  rw [if_pos (by omega), if_pos (by omega)]
  exact ⟨rfl, rfl⟩
theorem own_slice {w : World} {B e n : Nat} {v : Value} {xs : List Value} (h : w.ownsRow B e 1 v n xs) : ∃ a c, v = .slice a n c := by
  rcases h.2 with ⟨rfl, rfl⟩ | ⟨g, cap, cur, rfl, _⟩
  · exact ⟨_, _, rfl⟩
  · exact ⟨_, _, rfl⟩
end Go.Proofs.YtlecidgfchaonaaDoor
