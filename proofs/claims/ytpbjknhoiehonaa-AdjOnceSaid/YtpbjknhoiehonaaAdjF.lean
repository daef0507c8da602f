import Derived.Test.YtpbjknhoiehonaaAdjE
set_option linter.unusedVariables false
set_option linter.unusedSimpArgs false
namespace Go.Proofs.Ytpbjknhoiehonaa
open Go.RowKit Go.Shelf
attribute [local go_sem ↓] Go.wp_at_zero Go.wp_at_succ
attribute [local go_sem] Oper.semAt_some
/-! WHAT Each's CLOSURE YIELDS: the numbers of a row, each with its edge. -/
def encE (x : Nat × Ed) : Array Value := #[.int .i64 (x.1 : Int), .agg #[.int .i64 x.2.f, .int .i64 x.2.t, .int .u64 (x.2.w : Int)]]
def pairs (es : List Ed) (row : List Nat) : List (Nat × Ed) := row.map fun i => (i, es[i]?.getD ⟨0, 0, 0⟩)
/-- What the closure reads between two rounds. -/
def ESt (R1 x off : Nat) (row : List Nat) (E : Value) (es : List Ed) (W : World) : Prop := W.cell? ⟨R1, 0, none⟩ = some E ∧ (∀ (j i : Nat), row[j]? = some i → W.cell? ⟨x, off + j, none⟩ = some (.int .i64 (i : Int))) ∧ EdgesAt W E es
theorem ESt.on {R1 x off : Nat} {row : List Nat} {E : Value} {es : List Ed} {W w1 : World} (hb : Below W.heap.size W w1) (h : ESt R1 x off row E es W) : ESt R1 x off row E es w1 := ⟨cell_on hb h.1, fun j i hj => cell_on hb (h.2.1 j i hj), h.2.2.on hb⟩
set_option maxRecDepth 100000 in
set_option maxHeartbeats 2000000 in
theorem each1_in (F : Fence) (n : Nat) (hf : F.fn 37) (hro : F.round = none) (hn : 1 ≤ n) (l R R1 x off cr c m : Nat) (a : Option Addr) (row : List Nat) (es : List Ed) (hm : es.length = m) (hl : m ≤ 16384) (hrow : row.length ≤ 1000000) (hin : ∀ i ∈ row, i < m)
    (Kp : World → World → Prop) (hKp : ∀ A B, Kp A B → ESt R1 x off row (.slice a m c) es A → ESt R1 x off row (.slice a m c) es B) (J Jx : List (Nat × Ed) → World → Prop)
    (hY : ∀ pre y W, J pre W → pre.length < row.length → YieldAt F (n - 1) Try.prog l (encE y) W fun e W' => (e = .returned (.bool true) ∧ J (pre ++ [y]) W' ∧ Kp W W') ∨ (e = .returned (.bool false) ∧ Jx (pre ++ [y]) W'))
    (W : World) (hR : W.cell? ⟨R, 0, none⟩ = some (.slice (some ⟨x, off, none⟩) row.length cr)) (hE : ESt R1 x off row (.slice a m c) es W) (h0 : J [] W) :
    CallsIn F n Try.prog 37 #[.func (.yield l) #[] #[], .pointer (some ⟨R, 0, none⟩), .pointer (some ⟨R1, 0, none⟩)] W fun e W' => (∃ v, e = .returned v) ∧
      ((∃ ys, ys = pairs es row ∧ J ys W') ∨ (∃ pre, (∃ k, k ≤ row.length ∧ pre = (pairs es row).take k) ∧ Jx pre W')) := by
  have hpl : (pairs es row).length = row.length := by simp [pairs]
  have htk : ∀ (k i : Nat) (e : Ed), row[k]? = some i → es[i]? = some e → (pairs es row).take (k + 1) = (pairs es row).take k ++ [(i, e)] := fun k i e h1 h2 => by
    have hk : k < row.length := (List.getElem?_eq_some_iff.1 h1).1
    have h3 : (pairs es row)[k]? = some (i, e) := by simp [pairs, h1, h2]
    rw [List.take_add_one, h3]; rfl
  refine callsIn_of_wp Try.func37 rfl hf ?_ hro
  simp only [Try.ntmps37, List.size_toArray, List.length_cons, List.length_nil, Nat.reduceAdd, Nat.reduceSub, Array.replicate_succ, Array.replicate_zero, List.push_toArray, List.append_toArray, List.nil_append, List.cons_append]
  generalize hRL : row.length = M at *
  gi_wp2
  gi_loopw [8] (fun i wr => ∃ k : Nat, k ≤ M ∧ i = .int .i64 k ∧ J ((pairs es row).take k) wr ∧ ESt R1 x off row (.slice a m c) es wr)
    (fun i _ => M - (intOf i).toNat)
  case atStart => exact ⟨0, Nat.zero_le _, rfl, by rw [List.take_zero]; exact h0, hE⟩
  case round =>
    clear hE h0
    obtain ⟨k, hk, rfl, hJs, hES⟩ := hrel
    by_cases hlt : k < M
    · obtain ⟨i, hi⟩ : ∃ i, row[k]? = some i := ⟨row[k]'(by omega), List.getElem?_eq_getElem (by omega)⟩
      have him : i < m := hin i (List.mem_of_getElem? hi)
      obtain ⟨⟨f, t, q⟩, he⟩ : ∃ e, es[i]? = some e := ⟨es[i]'(by omega), List.getElem?_eq_getElem (by omega)⟩
      obtain ⟨fn, tmps, assign, body, hy, hY1⟩ := hY _ (i, ⟨f, t, q⟩) wr hJs (by rw [List.length_take, hpl]; omega)
      have g0 := hES.1
      have g1 := hES.2.1 k i hi
      obtain ⟨a', c', ha, _, hg⟩ := hES.2.2
      obtain ⟨b, bo, rfl, hc⟩ := hg (by omega)
      injection ha with ha1 ha2 ha3
      subst ha1
      obtain ⟨e1, e2, e3⟩ := hc i _ he
      simp only at e1 e2 e3
      have hk0 : (0 : Int) ≤ (k : Int) := Int.natCast_nonneg _
      have hk1 : (k : Int) < (M : Int) := by omega
      have hi0 : (0 : Int) ≤ (i : Int) := Int.natCast_nonneg _
      have hi1 : (i : Int) < (m : Int) := by omega
      have HT := Lib.hid (htk k i _ hi he)
      dsimp only [encE] at hy
      have HES := Lib.hid hES
      have HKp := Lib.hid hKp
      clear hY hc hg hi he ha2 ha3 hES hKp hR
      gi_wp2
      refine hY1.mono ?_
      rintro e W3 (⟨rfl, hJ3, hk3⟩ | ⟨rfl, hJx3⟩)
      · have HE3 := Lib.hid (HKp.out _ _ hk3 HES.out)
        clear HES HKp hk3
        gi_wp2
        go_roundw
        case rel => exact ⟨k + 1, by omega, by simp, by rw [HT.out]; exact hJ3, HE3.out⟩
        case measure => simp [intOf]; omega
      · gi_wp2
        refine bodyPost_ret (results_none rfl _ _ _) rfl ?_
        exact ⟨⟨_, rfl⟩, .inr ⟨_, ⟨k + 1, by omega, HT.out.symm⟩, hJx3⟩⟩
    · obtain rfl : k = M := by omega
      gi_wp2
      go_end0
      exact ⟨⟨_, rfl⟩, .inl ⟨_, rfl, by rw [← hpl, List.take_length] at hJs; exact hJs⟩⟩
set_option maxRecDepth 100000 in
set_option maxHeartbeats 1000000 in
/-- Of the nil row nothing comes. -/
theorem each1_nil (R R1 : Nat) (l : Nat) (W : World) (hR : W.cell? ⟨R, 0, none⟩ = some (.slice none 0 0)) :
    Calls Try.prog 37 (#[.func (.yield l) #[] #[]] ++ #[.pointer (some ⟨R, 0, none⟩), .pointer (some ⟨R1, 0, none⟩)]) W fun e W' => (∃ v, e = .returned v) ∧ Below W.heap.size W W' := by
  go_enter Try.func37, Try.ntmps37
  go_wp2
  refine wp_loop_rounds 1 ?_
  rw [rounds_succ]
  go_wp2
  go_end0
  exact ⟨⟨_, rfl⟩, Below.refl _ _⟩
/-- Each's closure as a contract. -/
theorem each_stops (F : Fence) (n : Nat) (hf : F.fn 37) (hro : F.round = none) (hn : 1 ≤ n) (R R1 x off cr c m : Nat) (a : Option Addr) (row : List Nat) (es : List Ed) (hm : es.length = m) (hl : m ≤ 16384) (hrow : row.length ≤ 1000000) (hin : ∀ i ∈ row, i < m)
    (Kp : World → World → Prop) (hKp : ∀ A B, Kp A B → ESt R1 x off row (.slice a m c) es A → ESt R1 x off row (.slice a m c) es B) (w : World)
    (hR : w.cell? ⟨R, 0, none⟩ = some (.slice (some ⟨x, off, none⟩) row.length cr)) (hE : ESt R1 x off row (.slice a m c) es w) :
    SeqStopsK F n Try.prog 37 #[.pointer (some ⟨R, 0, none⟩), .pointer (some ⟨R1, 0, none⟩)] encE Kp (fun ys => ys = pairs es row) (fun pre => ∃ k, k ≤ row.length ∧ pre = (pairs es row).take k) row.length w := fun l J Jx W hW _ _ hY h0 =>
  each1_in F n hf hro hn l R R1 x off cr c m a row es hm hl hrow hin Kp hKp J Jx hY W (cell_on hW hR) (hE.on hW) h0
end Go.Proofs.Ytpbjknhoiehonaa
