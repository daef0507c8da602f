import Derived.Test.YtlecidgfchaonaaDoorMC
import Derived.Test.YtlecidgfchaonaaDoorME
import Derived.Test.YtlecidgfchaonaaDoorMG
import Derived.Deep.AppendLies
import Derived.OneCell
set_option linter.unusedVariables false
set_option linter.unusedSimpArgs false
namespace Go.Proofs.YtlecidgfchaonaaDoor
open Go.RowKit Go.Sort Go.Lib
attribute [local go_sem ↓] Go.wp_at_zero Go.wp_at_succ
/-- A number's digits. -/
def dg (n : Nat) : ByteArray := ⟨(decDigits n).toArray⟩
def lastF (es : List Ed) : Int := match es.getLast? with | some e => e.f | none => -1
/-- Which fault the k-th number has, of a graph so far (0: the nodes, 1: how many edges, then from, to, weight by turns). -/
def numF (N : Nat) (es : List Ed) (k n : Nat) : Int :=
  if k = 0 then (if n < 1 ∨ 4096 < n then 2 else 0) else if k = 1 then (if 16384 < n then 5 else 0)
  else if (k - 2) % 3 = 2 then (if n < 1 ∨ 4294967296 < n then 2 else 0) else if N ≤ n ∨ ((k - 2) % 3 = 1 ∧ (n : Int) = lastF es) then 7 else 0
/-- The k-th number, into a graph. -/
def takeN (N k n : Nat) : Nat := if k = 0 then n else N
def takeE (es : List Ed) (k n : Nat) : List Ed :=
  if k < 2 then es else if (k - 2) % 3 = 0 then es ++ [⟨n, 0, 0⟩] else if (k - 2) % 3 = 1 then es.modify (es.length - 1) (fun e => ⟨e.f, n, e.w⟩) else es.modify (es.length - 1) (fun e => ⟨e.f, e.t, n⟩)
/-- Parse: what remains of the words, from the k-th on. -/
def runP (l : List ByteArray) : Nat → Nat → Nat → Nat → List Ed → Int × List Ed × Int × Int
  | 0, _, _, _, _ => (0, [], 0, 0)
  | fuel + 1, k, need, N, es =>
    if need ≤ k then (if need < l.length then (0, [], need, 3) else (N, es, 0, 0))
    else match l[k]? with
      | none => (0, [], l.length, 3)
      | some x =>
        if parseF x.data.toList ≠ 0 then (0, [], k, 3)
        else if numF N es k (parseV x.data.toList) ≠ 0 then (0, [], k, numF N es k (parseV x.data.toList))
        else runP l fuel (k + 1) (if k = 1 then 2 + 3 * parseV x.data.toList else need) (takeN N k (parseV x.data.toList)) (takeE es k (parseV x.data.toList))
def parseG (l : List ByteArray) : Int × List Ed × Int × Int := runP l (l.length + 2) 0 2 0 []
theorem dg_size (u : Nat) (hu : u < 18446744073709551616) : (dg u).size ≤ 20 := by
  have : (decDigits u).length ≤ 20 := by rw [decDigits_length]; exact nDigits_le20 _ hu
  simpa [dg, ByteArray.size] using this
theorem rnumber_any (n : Nat) (hn : n ≤ 1000000) (w : World) :
    Calls Tryd.prog 23 #[.int .i64 (n : Int)] w fun e w' => e = .returned (.string (dg n)) ∧ Below w.heap.size w w' := by
  have HC := Lib.hid (rprint_any n (by omega) w)
  have hi1 : (n : Int) ≤ 1000000 := by omega
  have hi0 : (0 : Int) ≤ (n : Int) := Int.natCast_nonneg _
  unfold dg
  go_enter Tryd.func23, Tryd.ntmps23
  go_wp2_with (go_at_call 24; refine HC.out.mono ?_; rintro e w1 ⟨rfl, hB⟩; have HB := Lib.hid hB; clear hB)
  go_ret
  exact ⟨rfl, HB.out⟩
theorem tm3 {k r : Nat} (hk : 2 ≤ k) (hr : (k - 2) % 3 = r) : ((k : Int) - 2).tmod 3 = (r : Int) := by
  have h : (k : Int) - 2 = ((k - 2 : Nat) : Int) := by omega
  rw [h, Int.tmod_eq_emod_of_nonneg (Int.natCast_nonneg _)]
  omega
set_option maxHeartbeats 1000000 in
theorem rR6_any (N : Nat) (hN : N ≤ 4096) (es : List Ed) (E : Value) (k n : Nat) (hk : k ≤ 1000000) (hn : n < 18446744073709551616) (fr : Int) (hfr : fr = lastF es) (hf : 2 ≤ k → (k - 2) % 3 = 1 → 0 ≤ fr ∧ fr ≤ 4096) (w : World) :
    Calls Tryd.prog 51 #[.agg #[.int .i64 (N : Int), E], .int .i64 (k : Int), .int .i64 fr, .int .u64 (n : Int)] w fun e w' => e = .returned (.int .i64 (numF N es k n)) ∧ Below w.heap.size w w' := by
  have HB := Lib.hid ((Below.refl w.heap.size w).alloc (Nat.le_refl _) (.cells #[.int .i64 (N : Int), E] 24))
  unfold numF
  rw [← hfr]
  have hk1 : (k : Int) ≤ 1000000 := by omega
  have hk0 : (0 : Int) ≤ (k : Int) := Int.natCast_nonneg _
  by_cases h0 : k = 0
  · subst h0
    rw [if_pos rfl]
    by_cases h1 : n < 1 ∨ 4096 < n
    · rw [if_pos h1]
      have hd : n < 1 ∨ (1 ≤ n ∧ 4096 < n) := by omega
      clear h1
      rcases hd with h | ⟨h, h'⟩
      · obtain rfl : n = 0 := by omega
        go_enter Tryd.func51, Tryd.ntmps51
        go_wp2
        go_ret
        exact ⟨rfl, HB.out⟩
      · have q1 : decide ((n : Int) < 1) = false := decide_eq_false (by omega)
        have q2 : decide ((4096 : Int) < (n : Int)) = true := decide_eq_true (by omega)
        clear h h'
        go_enter Tryd.func51, Tryd.ntmps51
        go_wp2
        go_ret
        exact ⟨rfl, HB.out⟩
    · rw [if_neg h1]
      have q1 : decide ((n : Int) < 1) = false := decide_eq_false (by omega)
      have q2 : decide ((4096 : Int) < (n : Int)) = false := decide_eq_false (by omega)
      clear h1
      go_enter Tryd.func51, Tryd.ntmps51
      go_wp2
      go_ret
      exact ⟨rfl, HB.out⟩
  · rw [if_neg h0]
    have hb0 : ((k : Int) == 0) = false := by rw [beq_eq_false_iff_ne]; omega
    by_cases h1 : k = 1
    · subst h1
      rw [if_pos rfl]
      by_cases h2 : 16384 < n
      · rw [if_pos h2]
        have q1 : decide ((16384 : Int) < (n : Int)) = true := decide_eq_true (by omega)
        clear h2
        go_enter Tryd.func51, Tryd.ntmps51
        go_wp2
        go_ret
        exact ⟨rfl, HB.out⟩
      · rw [if_neg h2]
        have q1 : decide ((16384 : Int) < (n : Int)) = false := decide_eq_false (by omega)
        clear h2
        go_enter Tryd.func51, Tryd.ntmps51
        go_wp2
        go_ret
        exact ⟨rfl, HB.out⟩
    · rw [if_neg h1]
      have hb1 : ((k : Int) == 1) = false := by rw [beq_eq_false_iff_ne]; omega
      obtain ⟨r, hr⟩ : ∃ r, (k - 2) % 3 = r := ⟨_, rfl⟩
      have ht := tm3 (show 2 ≤ k by omega) hr
      have hr3 : r < 3 := by omega
      have hf' := hf (by omega)
      rw [hr] at hf' ⊢
      clear hf hr h0 h1 hfr
      by_cases e2 : r = 2
      · subst e2
        rw [if_pos rfl]
        clear hf'
        have ht2 : (((k : Int) - 2).tmod 3 == 2) = true := by rw [ht]; rfl
        clear ht
        by_cases h1 : n < 1 ∨ 4294967296 < n
        · rw [if_pos h1]
          have hd : n < 1 ∨ (1 ≤ n ∧ 4294967296 < n) := by omega
          clear h1
          rcases hd with h | ⟨h, h'⟩
          · obtain rfl : n = 0 := by omega
            go_enter Tryd.func51, Tryd.ntmps51
            go_wp2
            go_ret
            exact ⟨rfl, HB.out⟩
          · have q1 : decide ((n : Int) < 1) = false := decide_eq_false (by omega)
            have q2 : decide ((4294967296 : Int) < (n : Int)) = true := decide_eq_true (by omega)
            clear h h'
            go_enter Tryd.func51, Tryd.ntmps51
            go_wp2
            go_ret
            exact ⟨rfl, HB.out⟩
        · rw [if_neg h1]
          have q1 : decide ((n : Int) < 1) = false := decide_eq_false (by omega)
          have q2 : decide ((4294967296 : Int) < (n : Int)) = false := decide_eq_false (by omega)
          clear h1
          go_enter Tryd.func51, Tryd.ntmps51
          go_wp2
          go_ret
          exact ⟨rfl, HB.out⟩
      · rw [if_neg e2]
        have ht2 : (((k : Int) - 2).tmod 3 == 2) = false := by rw [beq_eq_false_iff_ne, ht]; omega
        have hN0 : (0 : Int) ≤ (N : Int) := Int.natCast_nonneg _
        have hN1 : (N : Int) ≤ 4096 := by omega
        by_cases h1 : N ≤ n
        · rw [if_pos (Or.inl h1)]
          clear e2 ht hf'
          go_enter Tryd.func51, Tryd.ntmps51
          go_wp2
          go_ret
          exact ⟨rfl, HB.out⟩
        · by_cases e1 : r = 1
          · subst e1
            obtain ⟨f0, f1⟩ := hf' rfl
            have ht1 : (((k : Int) - 2).tmod 3 == 1) = true := by rw [ht]; rfl
            obtain ⟨F, rfl⟩ : ∃ F : Nat, fr = F := ⟨fr.toNat, by omega⟩
            by_cases h2 : n = F
            · rw [if_pos (Or.inr ⟨rfl, by rw [h2]⟩)]
              subst h2
              clear e2 ht hf'
              go_enter Tryd.func51, Tryd.ntmps51
              go_wp2
              go_ret
              exact ⟨rfl, HB.out⟩
            · rw [if_neg (fun h => h.elim h1 (fun h => h2 (by have := h.2; omega)))]
              have q2 : ((n : Int) == (F : Int)) = false := by rw [beq_eq_false_iff_ne]; omega
              clear e2 ht hf'
              go_enter Tryd.func51, Tryd.ntmps51
              go_wp2
              go_ret
              exact ⟨rfl, HB.out⟩
          · rw [if_neg (fun h => h.elim h1 (fun h => e1 h.1))]
            have ht1 : (((k : Int) - 2).tmod 3 == 1) = false := by rw [beq_eq_false_iff_ne, ht]; omega
            clear e2 ht hf' e1
            go_enter Tryd.func51, Tryd.ntmps51
            go_wp2
            go_ret
            exact ⟨rfl, HB.out⟩
end Go.Proofs.YtlecidgfchaonaaDoor

namespace Go.Proofs.YtlecidgfchaonaaDoor
open Go.RowKit
attribute [local go_sem ↓] Go.wp_at_zero Go.wp_at_succ
/-- A row of the call's own does not lie in a block that is laid later. -/
theorem own_ne {w : World} {base : Nat} {e : TypeId} {sz n : Nat} {v : Value} {xs : List Value} (h : w.ownsRow base e sz v n xs) (i : Nat) : some (w.heap.size + i) ≠ v.ownBlock := fun x => by
  have := (h.lt _ x.symm).2
  omega
theorem owns_far {w : World} {base : Nat} {e : TypeId} {sz n : Nat} {v : Value} {xs : List Value} (h : w.ownsRow base e sz v n xs) {p : Addr} (u : Value) (hp : some p.block ≠ v.ownBlock) : (w.setCell p u).ownsRow base e sz v n xs :=
  ownsRow_setCell_other h (fun x => hp x.symm) u
theorem g_alloc {w w' : World} {row : Option Nat} (h : w.grownBy w' row) (o : Obj) : w.grownBy (w'.alloc o) row :=
  ⟨h.os, h.tape, h.output, Nat.le_trans h.size (World.grownBy_alloc w' o row).size, fun k hk hn => ((World.grownBy_alloc w' o none).block k (Nat.lt_of_lt_of_le hk h.size) (by simp)).trans (h.block k hk hn)⟩
theorem g_then {a b c : World} {row row' : Option Nat} (h : a.grownBy b row) (k : b.grownBy c row') (hr : ∀ j, row' = some j → row = some j ∨ a.heap.size ≤ j) : a.grownBy c row :=
  ⟨k.os.trans h.os, k.tape.trans h.tape, k.output.trans h.output, Nat.le_trans h.size k.size, fun j hj hn => (k.block j (Nat.lt_of_lt_of_le hj h.size) (fun e => (hr j e.symm).elim (fun x => hn x.symm) (fun x => by omega))).trans (h.block j hj hn)⟩
theorem g_set {w w' : World} {row : Option Nat} (h : w.grownBy w' row) {p : Addr} (u : Value) (hp : w.heap.size ≤ p.block ∨ row = some p.block) : w.grownBy (w'.setCell p u) row := by
  have hb := (Below.refl p.block w').setCell (Nat.le_refl _) u (p := p)
  refine ⟨hb.os.trans h.os, hb.tape.trans h.tape, hb.output.trans h.output, Nat.le_trans h.size hb.size, fun j hj hn => ?_⟩
  have hne : j ≠ p.block := fun e => by
    rcases hp with x | x
    · omega
    · exact hn (by rw [x, e])
  rw [heap_setCell_other w' p j u hne]
  exact h.block j hj hn
/-- Behind 'take': the row that it hands back, and what has turned. -/
def Took (w w' : World) (base : Nat) (v v' : Value) (es' : List Ed) : Prop := w'.ownsRow base 43 3 v' es'.length (flat es') ∧ w.grownBy w' v.ownBlock ∧ ∀ j, v'.ownBlock = some j → v.ownBlock = some j ∨ w.heap.size ≤ j
theorem modify_last (l : List Ed) (e : Ed) (f : Ed → Ed) : (l ++ [e]).modify ((l ++ [e]).length - 1) f = l ++ [f e] := by
  rw [List.length_append, List.length_singleton, Nat.add_sub_cancel]
  apply List.ext_getElem?
  intro j
  rw [List.getElem?_modify]
  rcases Nat.lt_trichotomy j l.length with h | h | h
  · rw [List.getElem?_append_left h, List.getElem?_append_left h]
    have : ¬ (l.length = j) := by omega
    simp [this]
  · subst h; simp
  · rw [List.getElem?_eq_none (by simp; omega), List.getElem?_eq_none (by simp; omega)]; simp
theorem flat_last_t (l : List Ed) (f t : Int) (x : Nat) (n : Int) : (flat (l ++ [⟨f, t, x⟩])).set (l.length * 3 + 1) (.int .i64 n) = flat (l ++ [⟨f, n, x⟩]) := by
  rw [flat_snoc, flat_snoc, List.set_append_right _ _ (by rw [flat_len]; omega), flat_len, show l.length * 3 + 1 - l.length * 3 = 1 by omega]; rfl
theorem flat_last_w (l : List Ed) (f t : Int) (x n : Nat) : (flat (l ++ [⟨f, t, x⟩])).set (l.length * 3 + 2) (.int .u64 (n : Int)) = flat (l ++ [⟨f, t, n⟩]) := by
  rw [flat_snoc, flat_snoc, List.set_append_right _ _ (by rw [flat_len]; omega), flat_len, show l.length * 3 + 2 - l.length * 3 = 2 by omega]; rfl
theorem res2 (w : World) (o : Obj) (x y : Value) (T : TypeId) : ((w.alloc o).alloc (.cells #[x, y] T)).cell? ⟨w.heap.size + 1, 0, none⟩ = some x ∧ ((w.alloc o).alloc (.cells #[x, y] T)).cell? ⟨w.heap.size + 1, 1, none⟩ = some y ∧ ((w.alloc o).alloc (.cells #[x, y] T)).frozen? ⟨w.heap.size + 1, 0, none⟩ = false ∧ ((w.alloc o).alloc (.cells #[x, y] T)).frozen? ⟨w.heap.size + 1, 1, none⟩ = false := ⟨by simp, by simp, by simp, by simp⟩
theorem res1 (w : World) (o : Obj) (x y : Value) (T : TypeId) : ((w.alloc (.cells #[x, y] T)).alloc o).cell? ⟨w.heap.size, 0, none⟩ = some x ∧ ((w.alloc (.cells #[x, y] T)).alloc o).cell? ⟨w.heap.size, 1, none⟩ = some y ∧ ((w.alloc (.cells #[x, y] T)).alloc o).frozen? ⟨w.heap.size, 1, none⟩ = false := ⟨by simp, by simp, by simp⟩
theorem heap_alloc3_new (w : World) (a b c : Obj) : (((w.alloc a).alloc b).alloc c).heap[w.heap.size + 2]? = some c := by
  have := heap_alloc_new ((w.alloc a).alloc b) c
  simpa using this
set_option maxHeartbeats 1000000 in
theorem rtake_low (N : Nat) (es : List Ed) (k n base : Nat) (a : Option Addr) (m c : Nat) (hk : k < 2) (hn : n ≤ 4294967296) (w : World) (hb : base ≤ w.heap.size) (hown : w.ownsRow base 43 3 (.slice a m c) m (flat es)) :
    Calls Tryd.prog 52 #[.agg #[.int .i64 (N : Int), .slice a m c], .int .i64 (k : Int), .int .u64 (n : Int)] w fun e w' => e = .returned (.agg #[.int .i64 (takeN N k n : Nat), .slice a m c]) ∧ w'.ownsRow base 43 3 (.slice a m c) m (flat es) ∧ w.grownBy w' (Value.slice a m c).ownBlock := by
  have HO := Lib.hid hown
  have HL := Lib.hid hb
  have hn1 : (n : Int) ≤ 4294967296 := by omega
  have hd : k = 0 ∨ k = 1 := by omega
  clear hk hown
  rcases hd with rfl | rfl
  all_goals
    go_enter Tryd.func52, Tryd.ntmps52
    go_wp2
    refine bodyPost_ret_by (resG rfl _ rfl (res2 _ _ _ _ _).1 (res2 _ _ _ _ _).2.1) rfl ⟨by simp [takeN], (HO.out.alloc _).alloc _, g_alloc (g_alloc (World.grownBy.refl w _) _) _⟩
set_option maxHeartbeats 2000000 in
theorem rtake_from (N : Nat) (es : List Ed) (k n base : Nat) (a : Option Addr) (m c : Nat) (hk : 2 ≤ k) (hk1 : k ≤ 1000000) (hr : (k - 2) % 3 = 0) (hn : n ≤ 4294967296) (hm : m ≤ 20000) (w : World) (hb : base ≤ w.heap.size) (hown : w.ownsRow base 43 3 (.slice a m c) m (flat es)) :
    Calls Tryd.prog 52 #[.agg #[.int .i64 (N : Int), .slice a m c], .int .i64 (k : Int), .int .u64 (n : Int)] w fun e w' => ∃ gg cap, e = .returned (.agg #[.int .i64 (N : Int), .slice (some ⟨gg, 0, none⟩) (m + 1) cap]) ∧ w'.ownsRow base 43 3 (.slice (some ⟨gg, 0, none⟩) (m + 1) cap) (m + 1) (flat (es ++ [⟨n, 0, 0⟩])) ∧ w.grownBy w' (Value.slice a m c).ownBlock ∧ ((Value.slice a m c).ownBlock = some gg ∨ w.heap.size ≤ gg) := by
  have ht := tm3 hk hr
  have hb0 : ((k : Int) == 0) = false := by rw [beq_eq_false_iff_ne]; omega
  have hb1 : ((k : Int) == 1) = false := by rw [beq_eq_false_iff_ne]; omega
  have hk2 : (k : Int) ≤ 1000000 := by omega
  have hn1 : (n : Int) ≤ 4294967296 := by omega
  have HO := Lib.hid hown
  have HL := Lib.hid hb
  obtain ⟨i0, hi, hz0, hz1, hz2⟩ := info_parts infoE
  clear hk hr hown hb
  go_enter Tryd.func52, Tryd.ntmps52
  go_wp2_with (at_builtin; refine wpList_append_lies _ rfl _ _ 22 rfl base 43 i0 (.agg #[.int .i64 0, .int .i64 0, .int .u64 0]) 3 24 Tryd.underlying22 hi hz0 hz1 hz2 rfl (by decide) _ _ _ rfl (((HO.out.alloc _).alloc _).alloc _) ⟨w.heap.size + 2, 0, none⟩ 1 1 [.int .i64 (n : Int), .int .i64 0, .int .u64 0] rfl rfl ?c1 ?c2 (by omega) ?c3 ?c4 ?c5 _ rfl ?_)
  case c1 => exact World.news_of_block (heap_alloc3_new w _ _ _)
  case c2 => intro u hu; simp at hu; rcases hu with rfl | rfl | rfl <;> rfl
  case c3 => unfold maxLen; omega
  case c4 => omega
  case c5 => have := HL.out; simp; omega
  intro gg cap w2 hown1 hgrow hat hlt2
  have n0 := own_ne HO.out 0
  have n1 := own_ne HO.out 1
  rw [Nat.add_zero] at n0
  have hb3 := (Below.refl _ ((w.alloc (.cells #[.int .i64 (N : Int), .slice a m c] 24)).alloc (.cells #[.int .i64 0, .slice none 0 0] 24))).alloc (Nat.le_refl _) (.cells #[.int .i64 (n : Int), .int .i64 0, .int .u64 0] 43)
  have z2 := res2 w (.cells #[.int .i64 (N : Int), .slice a m c] 24) (.int .i64 0) (.slice none 0 0) 24
  have z1 := res1 w (.cells #[.int .i64 0, .slice none 0 0] 24) (.int .i64 (N : Int)) (.slice a m c) 24
  have p0 := far_cell hgrow n0 (cell_on hb3 z1.1)
  have p1 := far_cell hgrow n0 (cell_on hb3 z1.2.1)
  have p2 := far_frozen hgrow n0 (cell_on hb3 z1.2.1) (frozen_on hb3 z1.2.1 z1.2.2)
  have r0 := far_cell hgrow n1 (cell_on hb3 z2.1)
  have r1 := far_cell hgrow n1 (cell_on hb3 z2.2.1)
  have r2 := far_frozen hgrow n1 (cell_on hb3 z2.1) (frozen_on hb3 z2.1 z2.2.2.1)
  have r3 := far_frozen hgrow n1 (cell_on hb3 z2.2.1) (frozen_on hb3 z2.2.1 z2.2.2.2)
  have hgg : gg ≠ w.heap.size ∧ gg ≠ w.heap.size + 1 := by
    rcases hat with h | h
    · have := (HO.out.lt gg h).2; omega
    · first | omega | (simp at h; omega)
  have HGG := Lib.hid hgg
  have HO2 := Lib.hid hown1
  have HB2 := Lib.hid (g_then (g_alloc (g_alloc (g_alloc (World.grownBy.refl w (Value.slice a m c).ownBlock) (.cells #[.int .i64 (N : Int), .slice a m c] 24)) (.cells #[.int .i64 0, .slice none 0 0] 24)) (.cells #[.int .i64 (n : Int), .int .i64 0, .int .u64 0] 43)) hgrow (fun j h => .inl h))
  have HG2 : Hid ((Value.slice a m c).ownBlock = some gg ∨ w.heap.size ≤ gg) := Lib.hid (hat.imp id (fun h => by first | omega | (simp at h; omega)))
  have w1 : (w2.setCell ⟨w.heap.size, 1, none⟩ (.slice (some ⟨gg, 0, none⟩) (m + 1) cap)).cell? ⟨w.heap.size, 0, none⟩ = _ := (World.cell?_setCell_other _ _ _ _ (by simp)).trans p0
  have w1' : (w2.setCell ⟨w.heap.size, 1, none⟩ (.slice (some ⟨gg, 0, none⟩) (m + 1) cap)).cell? ⟨w.heap.size, 1, none⟩ = _ := World.cell?_setCell_same _ _ _ p1
  have s0 : (w2.setCell ⟨w.heap.size, 1, none⟩ (.slice (some ⟨gg, 0, none⟩) (m + 1) cap)).cell? ⟨w.heap.size + 1, 0, none⟩ = _ := (World.cell?_setCell_other _ _ _ _ (by simp)).trans r0
  have s1 : (w2.setCell ⟨w.heap.size, 1, none⟩ (.slice (some ⟨gg, 0, none⟩) (m + 1) cap)).cell? ⟨w.heap.size + 1, 1, none⟩ = _ := (World.cell?_setCell_other _ _ _ _ (by simp)).trans r1
  clear hown1 hgrow hat hgg n0 n1 p0
  go_wp2
  have h2 := set2_cells s0 s1 (.int .i64 (N : Int)) (.slice (some ⟨gg, 0, none⟩) (m + 1) cap)
  refine bodyPost_ret_by (resG rfl _ rfl h2.1 h2.2) rfl ⟨gg, cap, rfl, ?_, g_set (g_set (g_set HB2.out _ (.inl (by simp))) _ (.inl (by simp))) _ (.inl (by simp)), HG2.out⟩
  rw [flat_snoc]
  exact owns_far (owns_far (owns_far HO2.out _ (by have := HGG.out.1; simp [Value.ownBlock]; omega)) _ (by have := HGG.out.2; simp [Value.ownBlock]; omega)) _ (by have := HGG.out.2; simp [Value.ownBlock]; omega)
set_option maxHeartbeats 1000000 in
theorem rtake_to (N : Nat) (l : List Ed) (f t : Int) (x k n base gg m c : Nat) (hm : l.length = m) (hk : 2 ≤ k) (hk1 : k ≤ 1000000) (hr : (k - 2) % 3 = 1) (hn : n ≤ 4294967296) (hml : m ≤ 20000) (w : World) (hb : base ≤ w.heap.size) (hown : w.ownsRow base 43 3 (.slice (some ⟨gg, 0, none⟩) (m + 1) c) (m + 1) (flat (l ++ [⟨f, t, x⟩]))) :
    Calls Tryd.prog 52 #[.agg #[.int .i64 (N : Int), .slice (some ⟨gg, 0, none⟩) (m + 1) c], .int .i64 (k : Int), .int .u64 (n : Int)] w fun e w' => e = .returned (.agg #[.int .i64 (N : Int), .slice (some ⟨gg, 0, none⟩) (m + 1) c]) ∧ w'.ownsRow base 43 3 (.slice (some ⟨gg, 0, none⟩) (m + 1) c) (m + 1) (flat (l ++ [⟨f, (n : Int), x⟩])) ∧ w.grownBy w' (some gg) := by
  have ht := tm3 hk hr
  have hb0 : ((k : Int) == 0) = false := by rw [beq_eq_false_iff_ne]; omega
  have hb1 : ((k : Int) == 1) = false := by rw [beq_eq_false_iff_ne]; omega
  have hk2 : (k : Int) ≤ 1000000 := by omega
  have hn1 : (n : Int) ≤ 4294967296 := by omega
  have hfl : (flat (l ++ [⟨f, t, x⟩])).length = (m + 1) * 3 := by rw [flat_len]; simp [hm]
  obtain ⟨y, s0⟩ : ∃ y, w.cell? ⟨gg, m * 3 + 1, none⟩ = some y := ⟨_, (hown.cellAt (m * 3 + 1) (by omega)).trans (List.getElem?_eq_getElem (by omega))⟩
  have s1 := hown.frozenAt (m * 3 + 1)
  have hlt := (hown.lt gg rfl).2
  have hge := (hown.lt gg rfl).1
  have HO := Lib.hid (hown.stored (m * 3 + 1) (.int .i64 (n : Int))).1
  have HL := Lib.hid hb
  rw [← hm, flat_last_t, hm] at HO
  clear hk hr hown hb hfl
  go_enter Tryd.func52, Tryd.ntmps52
  go_wp2
  have hsz : (w.setCell ⟨gg, m * 3 + 1, none⟩ (.int .i64 (n : Int))).heap.size = w.heap.size := by simp
  have h2 := res2 (w.setCell ⟨gg, m * 3 + 1, none⟩ (.int .i64 (n : Int))) (.cells #[.int .i64 (N : Int), .slice (some ⟨gg, 0, none⟩) (m + 1) c] 24) (.int .i64 (N : Int)) (.slice (some ⟨gg, 0, none⟩) (m + 1) c) 24
  rw [hsz] at h2
  refine bodyPost_ret_by (resG rfl _ rfl h2.1 h2.2.1) rfl ⟨rfl, (HO.out.alloc _).alloc _, g_alloc (g_alloc (g_set (World.grownBy.refl w _) _ (.inr rfl)) _) _⟩
set_option maxHeartbeats 1000000 in
theorem rtake_w (N : Nat) (l : List Ed) (f t : Int) (x k n base gg m c : Nat) (hm : l.length = m) (hk : 2 ≤ k) (hk1 : k ≤ 1000000) (hr : (k - 2) % 3 = 2) (hn : n ≤ 4294967296) (hml : m ≤ 20000) (w : World) (hb : base ≤ w.heap.size) (hown : w.ownsRow base 43 3 (.slice (some ⟨gg, 0, none⟩) (m + 1) c) (m + 1) (flat (l ++ [⟨f, t, x⟩]))) :
    Calls Tryd.prog 52 #[.agg #[.int .i64 (N : Int), .slice (some ⟨gg, 0, none⟩) (m + 1) c], .int .i64 (k : Int), .int .u64 (n : Int)] w fun e w' => e = .returned (.agg #[.int .i64 (N : Int), .slice (some ⟨gg, 0, none⟩) (m + 1) c]) ∧ w'.ownsRow base 43 3 (.slice (some ⟨gg, 0, none⟩) (m + 1) c) (m + 1) (flat (l ++ [⟨f, t, n⟩])) ∧ w.grownBy w' (some gg) := by
  have ht := tm3 hk hr
  have hb0 : ((k : Int) == 0) = false := by rw [beq_eq_false_iff_ne]; omega
  have hb1 : ((k : Int) == 1) = false := by rw [beq_eq_false_iff_ne]; omega
  have hk2 : (k : Int) ≤ 1000000 := by omega
  have hn1 : (n : Int) ≤ 4294967296 := by omega
  have hfl : (flat (l ++ [⟨f, t, x⟩])).length = (m + 1) * 3 := by rw [flat_len]; simp [hm]
  obtain ⟨y, s0⟩ : ∃ y, w.cell? ⟨gg, m * 3 + 2, none⟩ = some y := ⟨_, (hown.cellAt (m * 3 + 2) (by omega)).trans (List.getElem?_eq_getElem (by omega))⟩
  have s1 := hown.frozenAt (m * 3 + 2)
  have hlt := (hown.lt gg rfl).2
  have hge := (hown.lt gg rfl).1
  have HO := Lib.hid (hown.stored (m * 3 + 2) (.int .u64 (n : Int))).1
  have HL := Lib.hid hb
  rw [← hm, flat_last_w, hm] at HO
  clear hk hr hown hb hfl
  go_enter Tryd.func52, Tryd.ntmps52
  go_wp2
  have hsz : (w.setCell ⟨gg, m * 3 + 2, none⟩ (.int .u64 (n : Int))).heap.size = w.heap.size := by simp
  have h2 := res2 (w.setCell ⟨gg, m * 3 + 2, none⟩ (.int .u64 (n : Int))) (.cells #[.int .i64 (N : Int), .slice (some ⟨gg, 0, none⟩) (m + 1) c] 24) (.int .i64 (N : Int)) (.slice (some ⟨gg, 0, none⟩) (m + 1) c) 24
  rw [hsz] at h2
  refine bodyPost_ret_by (resG rfl _ rfl h2.1 h2.2.1) rfl ⟨rfl, (HO.out.alloc _).alloc _, g_alloc (g_alloc (g_set (World.grownBy.refl w _) _ (.inr rfl)) _) _⟩
theorem rtake_any (N : Nat) (es : List Ed) (k n base : Nat) (v : Value) (hk : k ≤ 1000000) (hn : n ≤ 4294967296) (hm : es.length ≤ 20000) (hne : 2 ≤ k → (k - 2) % 3 ≠ 0 → es ≠ []) (w : World) (hb : base ≤ w.heap.size) (hown : w.ownsRow base 43 3 v es.length (flat es)) :
    Calls Tryd.prog 52 #[.agg #[.int .i64 (N : Int), v], .int .i64 (k : Int), .int .u64 (n : Int)] w fun e w' => ∃ v', e = .returned (.agg #[.int .i64 (takeN N k n : Nat), v']) ∧ Took w w' base v v' (takeE es k n) := by
  obtain ⟨a, c, rfl⟩ := slice_form hown
  by_cases h2 : k < 2
  · refine (rtake_low N es k n base a es.length c h2 hn w hb hown).mono ?_
    rintro e w' ⟨rfl, ho, hg⟩
    have ht : takeE es k n = es := by unfold takeE; rw [if_pos h2]
    rw [ht]
    exact ⟨_, rfl, ho, hg, fun j h => .inl h⟩
  · have hN : takeN N k n = N := by unfold takeN; rw [if_neg (by omega)]
    rw [hN]
    by_cases h0 : (k - 2) % 3 = 0
    · refine (rtake_from N es k n base a es.length c (by omega) hk h0 hn hm w hb hown).mono ?_
      rintro e w' ⟨gg, cap, rfl, ho, hg, hat⟩
      have ht : takeE es k n = es ++ [⟨n, 0, 0⟩] := by unfold takeE; rw [if_neg h2, if_pos h0]
      rw [ht]
      refine ⟨_, rfl, ?_, hg, fun j h => ?_⟩
      · rw [List.length_append]; exact ho
      · have e : gg = j := by simpa [Value.ownBlock] using h
        rw [← e]
        exact hat
    · have hnil := hne (by omega) h0
      obtain ⟨l, ⟨f, t, x⟩, rfl⟩ : ∃ l e, es = l ++ [e] := ⟨es.dropLast, es.getLast hnil, (List.dropLast_concat_getLast hnil).symm⟩
      obtain ⟨gg, cap, heq, _, _⟩ := hown.form (by simp)
      have hl : (l ++ [(⟨f, t, x⟩ : Ed)]).length = l.length + 1 := by simp
      rw [hl] at hown heq ⊢
      injection heq with e1 _ e2
      subst e1 e2
      by_cases h1 : (k - 2) % 3 = 1
      · have ht : takeE (l ++ [⟨f, t, x⟩]) k n = l ++ [⟨f, (n : Int), x⟩] := by unfold takeE; rw [if_neg h2, if_neg h0, if_pos h1, modify_last]
        refine (rtake_to N l f t x k n base gg l.length c rfl (by omega) hk h1 hn (by simp at hm; omega) w hb hown).mono ?_
        rintro e w' ⟨rfl, ho, hg⟩
        rw [ht]
        exact ⟨_, rfl, by rw [List.length_append]; exact ho, hg, fun j h => .inl h⟩
      · have ht : takeE (l ++ [⟨f, t, x⟩]) k n = l ++ [⟨f, t, n⟩] := by unfold takeE; rw [if_neg h2, if_neg h0, if_neg h1, modify_last]
        refine (rtake_w N l f t x k n base gg l.length c rfl (by omega) hk (by omega) hn (by simp at hm; omega) w hb hown).mono ?_
        rintro e w' ⟨rfl, ho, hg⟩
        rw [ht]
        exact ⟨_, rfl, by rw [List.length_append]; exact ho, hg, fun j h => .inl h⟩
end Go.Proofs.YtlecidgfchaonaaDoor
