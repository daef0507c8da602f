import Derived.Test.YtmhekahfgmmeaaaDoorCodM
import Derived.Laws.OwnMore
import Derived.OwnWalk
set_option linter.unusedVariables false
set_option linter.unusedSimpArgs false
namespace Go.Proofs.YtmhekahfgmmeaaaDoor
open Go.RowKit Go.Extern.Stop Go.Stop Go.Extern
theorem info9 : (Tryd.prog.info? 9).map (fun i => (i.zero, i.size, i.bytes)) = some (some (.string ⟨#[]⟩), 1, 16) := by kernel_rfl
theorem aggW (w : World) : (isAgg 46).run Tryd.prog w = .ok true w := by kernel_rfl
theorem sizeW (w : World) : (sizeOf 46).run Tryd.prog w = .ok 15 w := by kernel_rfl
/-- The whole table, loaded. -/
def wordsA : Array Value := (wordsL.map Value.string).toArray
theorem wordsA_at {n : Nat} (hn : n < 15) : wordsA[n]? = some (.string (wordN n)) := by
  have hl : n < wordsL.length := hn
  unfold wordsA wordN
  rw [List.getElem?_toArray, List.getElem?_map, List.getD_eq_getElem?_getD, List.getElem?_eq_getElem hl]
  rfl
theorem wordsA_size : wordsA.size = 15 := rfl
theorem loadW {w : World} (h : TabW w) : (loadCellsFrom ⟨0, 0, none⟩ 0 15 #[]).run Tryd.prog w = .ok wordsA w := by
  have h1 := run_loadCells_list (P := Tryd.prog) w ⟨0, 0, none⟩ wordsA.toList (fun j v hv => by
    rw [Addr.add_lit, Nat.zero_add]
    rw [Array.getElem?_toList] at hv
    have hj : j < 15 := by
      have := (Array.getElem?_eq_some_iff.1 hv).1
      rw [wordsA_size] at this
      exact this
    rw [wordsA_at hj] at hv
    rw [← Option.some.inj hv]
    exact h j hj)
  simpa [loadCells, wordsA_size] using h1
theorem indexW (A : Array Value) (hs : A.size = 15) (k : Nat) (hk : k < 15) (v : Value) (hv : A[k]? = some v) (h1 : v.oneCell' = true) (w : World) : (Instr.index 46 (.agg A) (.int .i64 k)).run Tryd.prog w = .ok v w := by
  have h0 : (0 : Int) ≤ (k : Int) ∧ (k : Int) < 15 := ⟨by omega, by omega⟩
  obtain ⟨i0, hi, _, hz, _⟩ := info_parts info9
  simp [Instr.index, run_underlying Tryd.underlying46, asIntOf, h0, hk, go_sem, part, sizeOf, isAgg, typeInfo, hv, hi, hz]
set_option maxRecDepth 20000 in
set_option maxHeartbeats 1000000 in
theorem cof_any (s : ByteArray) (w : World) (hT : TabW w) :
    Calls Tryd.prog 7 #[.string s] w fun e w' => e = .returned (.tuple #[.int .i64 (ofV s : Nat), .bool (ofIs s)]) ∧ w' = w := by
  have c0 := hT 0 (by decide)
  have c1 := hT 1 (by decide)
  have c2 := hT 2 (by decide)
  have c3 := hT 3 (by decide)
  have c4 := hT 4 (by decide)
  have c5 := hT 5 (by decide)
  have c6 := hT 6 (by decide)
  have c7 := hT 7 (by decide)
  have c8 := hT 8 (by decide)
  have c9 := hT 9 (by decide)
  have c10 := hT 10 (by decide)
  have c11 := hT 11 (by decide)
  have c12 := hT 12 (by decide)
  have c13 := hT 13 (by decide)
  have c14 := hT 14 (by decide)
  obtain ⟨A, hA, HA, hsz⟩ : ∃ A : Array Value, (#[Value.string (wordN 0), Value.string (wordN 1), Value.string (wordN 2), Value.string (wordN 3), Value.string (wordN 4), Value.string (wordN 5), Value.string (wordN 6), Value.string (wordN 7), Value.string (wordN 8), Value.string (wordN 9), Value.string (wordN 10), Value.string (wordN 11), Value.string (wordN 12), Value.string (wordN 13), Value.string (wordN 14)] : Array Value) = A ∧ Hid (∀ n, n < 15 → A[n]? = some (.string (wordN n))) ∧ Hid (A.size = 15) := ⟨_, rfl, Lib.hid (fun n hn => wordsA_at hn), Lib.hid rfl⟩
  have HAA := Lib.hid hA
  clear hT hA
  go_enter Tryd.func7, Tryd.ntmps7
  go_wp2
  rw [HAA.out]
  clear c0 c1 c2 c3 c4 c5 c6 c7 c8 c9 c10 c11 c12 c13 c14
  go_loop [7] (fun i => ∃ k : Nat, k ≤ 15 ∧ i = .int .i64 k ∧ Hid (NoWord s k)) (fun i => 15 - (RowKit.intOf i).toNat)
  case atStart => exact ⟨0, by omega, rfl, Lib.hid fun j h => by omega⟩
  case round =>
    obtain ⟨k, hk, rfl, HN⟩ := hrel
    by_cases hlt : k < 15
    · have hidx := indexW A hsz.out k hlt _ (HA.out k hlt) rfl w
      by_cases he : wordN k = s
      · have HX := Lib.hid (of_hit HN.out hlt he)
        rw [he] at hidx
        clear he
        go_wp2
        go_ret2
        exact ⟨by rw [HX.out.1, HX.out.2]; rfl, rfl⟩
      · have HN2 := Lib.hid (HN.out.succ he)
        have hne := str_ne he
        obtain ⟨x, hx⟩ : ∃ x, wordN k = x := ⟨_, rfl⟩
        rw [hx] at hne hidx
        clear he hx
        go_wp2
        go_round
        case rel => exact ⟨k + 1, by omega, by go_num, HN2⟩
        case measure => simp [RowKit.intOf] <;> omega
    · obtain rfl : k = 15 := by omega
      have HX := Lib.hid (of_miss HN.out)
      go_wp2
      go_ret2
      exact ⟨by rw [HX.out.1, HX.out.2]; rfl, rfl⟩
end Go.Proofs.YtmhekahfgmmeaaaDoor
