import Derived.Test.YtlecidgfchaonaaDoorML
import Derived.Deep.RegionHeld3
set_option linter.unusedVariables false
set_option linter.unusedSimpArgs false
namespace Go.Proofs.YtlecidgfchaonaaDoor
open Go.RowKit Go.Sort Go.Lib
attribute [local go_sem ↓] Go.wp_at_zero Go.wp_at_succ
theorem headOf_any (N : Nat) (hN : N < 9223372036854775808) (a : Option Addr) (m c : Nat) (hm : m < 9223372036854775808) (w : World) :
    Calls Tryd.prog 21 #[.agg #[.int .i64 (N : Int), .slice a m c]] w fun e w' => ∃ b, e = .returned (.slice (some ⟨b, 0, none⟩) 2 2) ∧ w.heap.size ≤ b ∧ w'.cell? ⟨b, 0, none⟩ = some (.int .u64 (N : Int)) ∧ w'.cell? ⟨b, 1, none⟩ = some (.int .u64 (m : Int)) ∧ Below w.heap.size w w' := by
  have HB0 := Lib.hid (((Below.refl w.heap.size w).alloc (Nat.le_refl _) (.cells #[.int .i64 (N : Int), .slice a m c] 24)).alloc (by simp) (.cells #[.int .u64 (N : Int), .int .u64 (m : Int)] 41))
  have w1 : IntKind.u64.wrap (N : Int) = N := IntWalk.u64_in _ ⟨by omega, by omega⟩
  have w2 : IntKind.u64.wrap (m : Int) = m := IntWalk.u64_in _ ⟨by omega, by omega⟩
  clear hN hm
  go_enter Tryd.func21, Tryd.ntmps21
  go_wp2
  go_ret
  exact ⟨w.heap.size + 1, rfl, by omega, by simp, by simp, HB0.out⟩
theorem edgeOf_any (F T x : Nat) (hF : F < 9223372036854775808) (hT : T < 9223372036854775808) (w : World) :
    Calls Tryd.prog 22 #[.agg #[.int .i64 (F : Int), .int .i64 (T : Int), .int .u64 (x : Int)]] w fun e w' => ∃ b, e = .returned (.slice (some ⟨b, 0, none⟩) 3 3) ∧ w.heap.size ≤ b ∧ w'.cell? ⟨b, 0, none⟩ = some (.int .u64 (F : Int)) ∧ w'.cell? ⟨b, 1, none⟩ = some (.int .u64 (T : Int)) ∧ w'.cell? ⟨b, 2, none⟩ = some (.int .u64 (x : Int)) ∧ Below w.heap.size w w' := by
  have HB0 := Lib.hid (((Below.refl w.heap.size w).alloc (Nat.le_refl _) (.cells #[.int .i64 (F : Int), .int .i64 (T : Int), .int .u64 (x : Int)] 43)).alloc (by simp) (.cells #[.int .u64 (F : Int), .int .u64 (T : Int), .int .u64 (x : Int)] 41))
  have w1 : IntKind.u64.wrap (F : Int) = F := IntWalk.u64_in _ ⟨by omega, by omega⟩
  have w2 : IntKind.u64.wrap (T : Int) = T := IntWalk.u64_in _ ⟨by omega, by omega⟩
  clear hF hT
  go_enter Tryd.func22, Tryd.ntmps22
  go_wp2
  go_ret
  exact ⟨w.heap.size + 1, rfl, by omega, by simp, by simp, by simp, HB0.out⟩
/-- appended: the digits of some numbers behind a row of the call's own. -/
def digW (ns : List Nat) : List ByteArray := ns.map dg
theorem digW_take {ns : List Nat} {k n : Nat} (h : ns[k]? = some n) : digW (ns.take (k + 1)) = digW (ns.take k) ++ [dg n] := by
  obtain ⟨hk, rfl⟩ := List.getElem?_eq_some_iff.1 h
  unfold digW
  rw [List.take_succ_eq_append_getElem hk, List.map_append]
  rfl
set_option maxHeartbeats 2000000 in
theorem app_any (ns : List Nat) (m : Nat) (hm : ns.length = m) (hm1 : m ≤ 100) (hns : ∀ n ∈ ns, n < 18446744073709551616) (b c base n : Nat) (ws : List ByteArray) (hn : ws.length = n) (hn1 : n ≤ 1000000) (v : Value) (w : World) (hbase : base ≤ w.heap.size) (hg : 1 < base) (htab : Pow10 w)
    (hown : w.ownsRow base 9 1 v n (ws.map Value.string)) (hbv : some b ≠ v.ownBlock) (hc : ∀ (j : Nat) u, ns[j]? = some u → w.cell? ⟨b, j, none⟩ = some (.int .u64 (u : Int))) :
    Calls Tryd.prog 20 #[v, .slice (some ⟨b, 0, none⟩) m c] w fun e w' => ∃ v', e = .returned v' ∧ w'.ownsRow base 9 1 v' (n + m) ((ws ++ digW ns).map Value.string) ∧ w.grownBy w' v.ownBlock ∧ ∀ j, v'.ownBlock = some j → v.ownBlock = some j ∨ w.heap.size ≤ j := by
  obtain ⟨i0, hi, hz0, hz1, hz2⟩ := info_parts info9
  have HO0 := Lib.hid hown
  have HC := Lib.hid hc
  have HNs := Lib.hid hns
  have HG0 : Hid (w.grownBy w v.ownBlock) := Lib.hid (World.grownBy.refl w _)
  have HB0 : Hid (∀ j, v.ownBlock = some j → v.ownBlock = some j ∨ w.heap.size ≤ j) := Lib.hid fun j h => .inl h
  have HT := Lib.hid (fun W (hb : Below base w W) => pow10_below htab hb hg)
  have HO1 : Hid (w.ownsRow base 9 1 v (n + 0) ((ws ++ digW (ns.take 0)).map Value.string)) := Lib.hid (by simpa [digW] using hown)
  have hm2 : (m : Int) ≤ 100 := by omega
  clear hown hc hns htab
  go_enter Tryd.func20, Tryd.ntmps20
  go_wp2
  go_loopw [0, 9] (fun x i wr => ∃ k : Nat, k ≤ m ∧ i = .int .i64 k ∧ Hid (wr.ownsRow base 9 1 x (n + k) ((ws ++ digW (ns.take k)).map Value.string)) ∧ Hid (w.grownBy wr v.ownBlock) ∧ Hid (∀ j, x.ownBlock = some j → v.ownBlock = some j ∨ w.heap.size ≤ j)) (fun _ i _ => m - (RowKit.intOf i).toNat)
  case atStart => exact ⟨0, by omega, rfl, HO1, HG0, HB0⟩
  case round =>
    obtain ⟨k, hk, rfl, HO, HG, HB⟩ := hrel
    obtain ⟨av, cv, rfl⟩ := slice_form HO.out
    by_cases hkm : k < m
    · have hu0 : ns[k]? = some (ns[k]'(by omega)) := List.getElem?_eq_getElem (by omega)
      obtain ⟨u, hu⟩ : ∃ u, ns[k]'(by omega) = u := ⟨_, rfl⟩
      rw [hu] at hu0
      have e0 := far_cell HG.out hbv (HC.out k u hu0)
      have hul := HNs.out u (List.mem_of_getElem? hu0)
      have hbl := below_growE (Below.refl base w) (Nat.le_refl base) hbase HO0.out HG.out
      have HcP := Lib.hid (print_any u hul wr (HT.out _ hbl))
      have HS := Lib.hid (digW_take hu0)
      have HZ : Hid (base ≤ wr.heap.size) := Lib.hid (by have := HG.out.size; omega)
      obtain ⟨D, hD⟩ : ∃ D, (⟨(decDigits u).toArray⟩ : ByteArray) = D := ⟨_, rfl⟩
      have hDg : dg u = D := hD
      rw [hDg] at HS
      rw [hD] at HcP
      clear hu hu0 hul hbl hD hDg HO1 HG0 HB0
      go_wp2_with (first
        | (go_at_call 44; refine HcP.out.mono ?_; rintro e w1 ⟨rfl, hB⟩; have HB1 := Lib.hid hB; clear hB HcP)
        | (at_builtin; refine wpList_append_lies _ rfl _ _ 27 rfl base 9 i0 (.string ⟨#[]⟩) 1 16 Tryd.underlying27 hi hz0 hz1 hz2 rfl (by decide) _ _ _ rfl ((owns_on HO.out HB1.out).alloc _) ⟨w1.heap.size, 0, none⟩ 1 1 [.string D] rfl rfl ?c1 (one_str _) (by omega) ?c3 ?c4 ?c5 _ rfl ?_))
      case c1 => exact World.news_of_block (heap_alloc_new w1 _)
      case c3 => unfold maxLen; omega
      case c4 => omega
      case c5 => have := HZ.out; have := HB1.out.size; simp; omega
      intro gg cap w2 hown1 hgrow hat hlt2
      have hz1' := HG.out.size
      have hz2' := HB1.out.size
      have HO2 : Hid (w2.ownsRow base 9 1 (.slice (some ⟨gg, 0, none⟩) (n + k + 1) cap) (n + (k + 1)) ((ws ++ digW (ns.take (k + 1))).map Value.string)) := Lib.hid (by
        have e : (ws ++ digW (ns.take (k + 1))).map Value.string = ws.map Value.string ++ ((digW (ns.take k)).map Value.string ++ [.string D]) := by rw [HS.out]; simp
        rw [e]
        exact hown1)
      have HG2 := Lib.hid (g_then HG.out (g_then (g_alloc (g_below HB1.out (Value.slice av (n + k) cv).ownBlock) _) hgrow (fun j h => .inl h)) (fun j h => HB.out j h))
      have HB2 : Hid (∀ j, (Value.slice (some ⟨gg, 0, none⟩) (n + k + 1) cap).ownBlock = some j → v.ownBlock = some j ∨ w.heap.size ≤ j) := Lib.hid fun j hj => by
        have e : gg = j := by simpa [Value.ownBlock] using hj
        rw [← e]
        rcases hat with h | h
        · exact HB.out gg h
        · right; omega
      clear hown1 hgrow hat hlt2 HO HG HB HB1 HS hz1' hz2' e0
      go_wp2
      go_roundw
      case rel => exact ⟨k + 1, by omega, by go_num, HO2, HG2, HB2⟩
      case measure => simp [RowKit.intOf] <;> omega
    · obtain rfl : k = m := by omega
      go_wp2
      go_ret
      refine ⟨_, rfl, ?_, HG.out, HB.out⟩
      have h1 := HO.out
      rw [List.take_of_length_le (by omega)] at h1
      exact h1
end Go.Proofs.YtlecidgfchaonaaDoor

namespace Go.Proofs.YtlecidgfchaonaaDoor
open Go.RowKit
attribute [local go_sem ↓] Go.wp_at_zero Go.wp_at_succ
/-- The fault of a number by the limits. -/
def limF (lo hi : Nat) (f : Int) (n : Nat) : Int := if n < lo ∨ hi < n then f else 0
/-- The three cells that a limit reads. -/
def LimAt (w : World) (p q r : Nat) (lo hi : Nat) (f : Int) : Prop := w.cell? ⟨p, 0, none⟩ = some (.int .u64 (lo : Int)) ∧ w.cell? ⟨q, 0, none⟩ = some (.int .u64 (hi : Int)) ∧ w.cell? ⟨r, 0, none⟩ = some (.int .i64 f)
theorem LimAt.on {w w1 : World} {p q r lo hi : Nat} {f : Int} (h : LimAt w p q r lo hi f) (hb : Below w.heap.size w w1) : LimAt w1 p q r lo hi f := ⟨cell_on hb h.1, cell_on hb h.2.1, cell_on hb h.2.2⟩
theorem LimAt.far {w w1 : World} {p q r lo hi : Nat} {f : Int} {row : Option Nat} (h : LimAt w p q r lo hi f) (hg : w.grownBy w1 row) (h1 : some p ≠ row) (h2 : some q ≠ row) (h3 : some r ≠ row) : LimAt w1 p q r lo hi f := ⟨far_cell hg h1 h.1, far_cell hg h2 h.2.1, far_cell hg h3 h.2.2⟩
set_option maxHeartbeats 1000000 in
theorem lim1_any (p q r lo hi n : Nat) (f : Int) (w : World) (h : LimAt w p q r lo hi f) :
    Calls Tryd.prog 59 #[.int .u64 (n : Int), .pointer (some ⟨p, 0, none⟩), .pointer (some ⟨q, 0, none⟩), .pointer (some ⟨r, 0, none⟩)] w fun e w' => e = .returned (.int .i64 (limF lo hi f n)) ∧ w' = w := by
  obtain ⟨c0, c1, c2⟩ := h
  unfold limF
  by_cases h1 : n < lo
  · rw [if_pos (Or.inl h1)]
    have q1 : decide ((n : Int) < (lo : Int)) = true := decide_eq_true (by omega)
    have q2 : decide (n < lo) = true := decide_eq_true h1
    clear h1
    go_enter Tryd.func59, Tryd.ntmps59
    go_wp2
    go_ret
    exact ⟨rfl, rfl⟩
  · have q1 : decide ((n : Int) < (lo : Int)) = false := decide_eq_false (by omega)
    have q2 : decide (n < lo) = false := decide_eq_false h1
    by_cases h2 : hi < n
    · rw [if_pos (Or.inr h2)]
      have q3 : decide ((hi : Int) < (n : Int)) = true := decide_eq_true (by omega)
      have q4 : decide (hi < n) = true := decide_eq_true h2
      clear h1 h2
      go_enter Tryd.func59, Tryd.ntmps59
      go_wp2
      go_ret
      exact ⟨rfl, rfl⟩
    · rw [if_neg (fun h => h.elim h1 h2)]
      have q3 : decide ((hi : Int) < (n : Int)) = false := decide_eq_false (by omega)
      have q4 : decide (hi < n) = false := decide_eq_false h2
      clear h1 h2
      go_enter Tryd.func59, Tryd.ntmps59
      go_wp2
      go_ret
      exact ⟨rfl, rfl⟩
/-- A limit's value. -/
def limV (p q r : Nat) : Value := .func (.func 59) #[] #[.pointer (some ⟨p, 0, none⟩), .pointer (some ⟨q, 0, none⟩), .pointer (some ⟨r, 0, none⟩)]
theorem lim_new (w : World) (lo hi : Nat) (f : Int) (S T U : TypeId) : LimAt (((w.alloc (.cells #[.int .u64 (lo : Int)] S)).alloc (.cells #[.int .u64 (hi : Int)] T)).alloc (.cells #[.int .i64 f] U)) w.heap.size (w.heap.size + 1) (w.heap.size + 1 + 1) lo hi f := by
  have one : ∀ (W : World) (v : Value) (T : TypeId), (W.alloc (.cells #[v] T)).cell? ⟨W.heap.size, 0, none⟩ = some v := fun W v T => by simp
  have on : ∀ (W : World) (o : Obj), Below W.heap.size W (W.alloc o) := fun W o => (Below.refl _ W).alloc (Nat.le_refl _) o
  have e0 := cell_on (on _ (.cells #[.int .i64 f] U)) (cell_on (on _ (.cells #[.int .u64 (hi : Int)] T)) (one w (.int .u64 (lo : Int)) S))
  have e1 := cell_on (on _ (.cells #[.int .i64 f] U)) (one (w.alloc (.cells #[.int .u64 (lo : Int)] S)) (.int .u64 (hi : Int)) T)
  have e2 := one ((w.alloc (.cells #[.int .u64 (lo : Int)] S)).alloc (.cells #[.int .u64 (hi : Int)] T)) (.int .i64 f) U
  have s1 : (w.alloc (.cells #[.int .u64 (lo : Int)] S)).heap.size = w.heap.size + 1 := by simp
  have s2 : ((w.alloc (.cells #[.int .u64 (lo : Int)] S)).alloc (.cells #[.int .u64 (hi : Int)] T)).heap.size = w.heap.size + 1 + 1 := by simp
  rw [s1] at e1
  rw [s2] at e2
  exact ⟨e0, e1, e2⟩
theorem within_any (lo hi : Nat) (f : Int) (w : World) :
    Calls Tryd.prog 47 #[.int .u64 (lo : Int), .int .u64 (hi : Int), .int .i64 f] w fun e w' => ∃ p q r, e = .returned (limV p q r) ∧ w.heap.size ≤ p ∧ w.heap.size ≤ q ∧ w.heap.size ≤ r ∧ LimAt w' p q r lo hi f ∧ Below w.heap.size w w' := by
  have HB := Lib.hid ((((Below.refl w.heap.size w).alloc (Nat.le_refl _) (.cells #[.int .u64 (lo : Int)] 41)).alloc (by simp) (.cells #[.int .u64 (hi : Int)] 41)).alloc (by simp; omega) (.cells #[.int .i64 f] 28))
  have hmf : ∀ (fn : Fn) (first cap : Array Value) (w : World), (Instr.makeFunc fn first cap).run Tryd.prog w = .ok (.func fn first cap) w := fun _ _ _ _ => rfl
  go_enter Tryd.func47, Tryd.ntmps47
  go_wp2
  go_ret
  exact ⟨w.heap.size, w.heap.size + 1, w.heap.size + 1 + 1, rfl, by omega, by omega, by omega, lim_new w lo hi f _ _ _, HB.out⟩
/-- The fault of an edge's other end. -/
def othF (from_ lo hi : Nat) (f : Int) (n : Nat) : Int := if n = from_ then 7 else limF lo hi f n
def OthAt (w : World) (F G p q r from_ lo hi : Nat) (f : Int) : Prop := w.cell? ⟨F, 0, none⟩ = some (.int .u64 (from_ : Int)) ∧ w.cell? ⟨G, 0, none⟩ = some (limV p q r) ∧ LimAt w p q r lo hi f
theorem OthAt.on {w w1 : World} {F G p q r fr lo hi : Nat} {f : Int} (h : OthAt w F G p q r fr lo hi f) (hb : Below w.heap.size w w1) : OthAt w1 F G p q r fr lo hi f := ⟨cell_on hb h.1, cell_on hb h.2.1, h.2.2.on hb⟩
def othV (F G : Nat) : Value := .func (.func 49) #[] #[.pointer (some ⟨F, 0, none⟩), .pointer (some ⟨G, 0, none⟩)]
set_option maxHeartbeats 1000000 in
theorem oth_any (F G p q r fr lo hi n : Nat) (f : Int) (w : World) (h : OthAt w F G p q r fr lo hi f) :
    Calls Tryd.prog 49 #[.int .u64 (n : Int), .pointer (some ⟨F, 0, none⟩), .pointer (some ⟨G, 0, none⟩)] w fun e w' => e = .returned (.int .i64 (othF fr lo hi f n)) ∧ w' = w := by
  obtain ⟨c0, c1, hl⟩ := h
  have HL := Lib.hid (lim1_any p q r lo hi n f w hl)
  unfold othF
  unfold limV at c1
  clear hl
  by_cases h1 : n = fr
  · rw [if_pos h1]
    subst h1
    clear HL
    go_enter Tryd.func49, Tryd.ntmps49
    go_wp2
    go_ret
    exact ⟨rfl, rfl⟩
  · rw [if_neg h1]
    have q1 : ((n : Int) == (fr : Int)) = false := by rw [beq_eq_false_iff_ne]; omega
    obtain ⟨R, hR⟩ : ∃ R, limF lo hi f n = R := ⟨_, rfl⟩
    rw [hR] at HL ⊢
    clear h1 hR
    go_enter Tryd.func49, Tryd.ntmps49
    go_wp2_with (go_at_call 59; refine HL.out.mono ?_; rintro e w1 ⟨rfl, hw1⟩; obtain rfl := hw1.symm; clear HL)
    go_ret
    exact ⟨rfl, rfl⟩
end Go.Proofs.YtlecidgfchaonaaDoor

namespace Go.Proofs.YtlecidgfchaonaaDoor
open Go.RowKit
attribute [local go_sem ↓] Go.wp_at_zero Go.wp_at_succ
/-- A draft: its nodes, its edges' slice, how many it names. -/
def DrAt (w : World) (D N : Nat) (v : Value) (M : Nat) : Prop := w.cell? ⟨D, 0, none⟩ = some (.int .i64 (N : Int)) ∧ w.cell? ⟨D, 1, none⟩ = some v ∧ w.cell? ⟨D, 2, none⟩ = some (.int .i64 (M : Int)) ∧ w.frozen? ⟨D, 0, none⟩ = false ∧ w.frozen? ⟨D, 1, none⟩ = false ∧ w.frozen? ⟨D, 2, none⟩ = false
theorem DrAt.on {w w1 : World} {D N M : Nat} {v : Value} (h : DrAt w D N v M) (hb : Below w.heap.size w w1) : DrAt w1 D N v M := ⟨cell_on hb h.1, cell_on hb h.2.1, cell_on hb h.2.2.1, frozen_on hb h.1 h.2.2.2.1, frozen_on hb h.2.1 h.2.2.2.2.1, frozen_on hb h.2.2.1 h.2.2.2.2.2⟩
theorem DrAt.far {w w1 : World} {D N M : Nat} {v : Value} {row : Option Nat} (h : DrAt w D N v M) (hg : w.grownBy w1 row) (hD : some D ≠ row) : DrAt w1 D N v M := ⟨far_cell hg hD h.1, far_cell hg hD h.2.1, far_cell hg hD h.2.2.1, far_frozen hg hD h.1 h.2.2.2.1, far_frozen hg hD h.2.1 h.2.2.2.2.1, far_frozen hg hD h.2.2.1 h.2.2.2.2.2⟩
set_option maxHeartbeats 1000000 in
theorem whole_any (D N M m c : Nat) (a : Option Addr) (w : World) (h : DrAt w D N (.slice a m c) M) :
    Calls Tryd.prog 32 #[.pointer (some ⟨D, 0, none⟩)] w fun e w' => e = .returned (.bool (decide (0 < N) && decide (m = M))) ∧ Below w.heap.size w w' := by
  have HB := Lib.hid (Below.refl w.heap.size w)
  obtain ⟨c0, c1, c2, _, _, _⟩ := h
  by_cases h1 : 0 < N
  · have q1 : decide ((0 : Int) < (N : Int)) = true := decide_eq_true (by omega)
    have q2 : decide (0 < N) = true := decide_eq_true h1
    by_cases h2 : m = M
    · subst h2
      have q3 : decide (m = m) = true := decide_eq_true rfl
      rw [q2, q3]
      clear h1
      go_enter Tryd.func32, Tryd.ntmps32
      go_wp2
      go_region
      all_goals go_wp2
      all_goals go_ret
      all_goals exact ⟨rfl, HB.out.drew⟩
    · have q3 : decide (m = M) = false := decide_eq_false h2
      have q4 : ((m : Int) == (M : Int)) = false := by rw [beq_eq_false_iff_ne]; omega
      rw [q2, q3]
      clear h1 h2
      go_enter Tryd.func32, Tryd.ntmps32
      go_wp2
      go_region
      all_goals go_wp2
      all_goals go_ret
      all_goals exact ⟨rfl, HB.out.drew⟩
  · have q1 : decide ((0 : Int) < (N : Int)) = false := decide_eq_false (by omega)
    have q2 : decide (0 < N) = false := decide_eq_false h1
    rw [q2, Bool.false_and]
    clear h1
    go_enter Tryd.func32, Tryd.ntmps32
    go_wp2
    go_region
    all_goals go_wp2
    all_goals go_ret
    all_goals exact ⟨rfl, HB.out.drew⟩
end Go.Proofs.YtlecidgfchaonaaDoor
