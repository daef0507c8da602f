import Derived.Test.YtmhekahfgmmeaaaDoorCodE
import Derived.Lib.Strings
import Derived.Laws.Concat
set_option linter.unusedVariables false
set_option linter.unusedSimpArgs false
namespace Go.Proofs.YtmhekahfgmmeaaaDoor
open Go.RowKit Go.Extern.Stop Go.Stop Go.Extern
/-- The faults' words, in their order. -/
def wordsL : List ByteArray := [⟨#[111, 107]⟩, ⟨#[98, 97, 100, 97, 114, 103]⟩, ⟨#[114, 97, 110, 103, 101]⟩, ⟨#[115, 121, 110, 116, 97, 120]⟩, ⟨#[102, 111, 114, 109]⟩, ⟨#[116, 111, 111, 98, 105, 103]⟩, ⟨#[111, 118, 101, 114, 102, 108, 111, 119]⟩, ⟨#[110, 111, 110, 111, 100, 101]⟩, ⟨#[110, 111, 101, 100, 103, 101]⟩, ⟨#[110, 111, 112, 97, 116, 104]⟩, ⟨#[117, 110, 107, 110, 111, 119, 110]⟩, ⟨#[110, 111, 103, 114, 97, 112, 104]⟩, ⟨#[110, 111, 98, 117, 105, 108, 100]⟩, ⟨#[115, 116, 97, 108, 101]⟩, ⟨#[99, 108, 111, 115, 101, 100]⟩]
def wordN (n : Nat) : ByteArray := wordsL.getD n ⟨#[]⟩
def isF (f : Int) : Bool := decide (0 ≤ f) && decide (f < 15)
def wordB (f : Int) : ByteArray := if isF f = true then wordN f.toNat else ⟨#[]⟩
theorem str_ne {x y : ByteArray} (h : x ≠ y) : (x.toList == y.toList) = false := by
  rw [beq_eq_false_iff_ne, Lib.toList_data, Lib.toList_data]
  intro e
  exact h (by rw [← Lib.mk_data x, e, Lib.mk_data])
theorem str_eq {x y : ByteArray} (h : x = y) : (x.toList == y.toList) = true := by subst h; simp
set_option maxHeartbeats 1000000 in
theorem rwords_any (w : World) :
    Calls Tryd.prog 23 #[] w fun e w' => ∃ b, e = .returned (.slice (some ⟨b, 0, none⟩) 15 15) ∧ (∀ n, n < 15 → w'.cell? ⟨b, n, none⟩ = some (.string (wordN n))) ∧ Below w.heap.size w w' := by
  go_enter Tryd.func23, Tryd.ntmps23
  go_wp2
  go_ret
  refine ⟨_, rfl, fun n hn => ?_, (Below.refl _ _).alloc (Nat.le_refl _) _⟩
  rw [World.cell?_alloc_new]
  match n, hn with
  | 0, _ => rfl
  | 1, _ => rfl
  | 2, _ => rfl
  | 3, _ => rfl
  | 4, _ => rfl
  | 5, _ => rfl
  | 6, _ => rfl
  | 7, _ => rfl
  | 8, _ => rfl
  | 9, _ => rfl
  | 10, _ => rfl
  | 11, _ => rfl
  | 12, _ => rfl
  | 13, _ => rfl
  | 14, _ => rfl
set_option maxHeartbeats 400000 in
theorem ris_any (f : Int) (w : World) :
    Calls Tryd.prog 11 #[.int .i64 f] w fun e w' => e = .returned (.bool (isF f)) ∧ Below w.heap.size w w' := by
  unfold isF
  by_cases h1 : 0 ≤ f
  · have HW := Lib.hid (fun W => rwords_any W)
    by_cases h2 : f < 15
    · rw [decide_eq_true h1, decide_eq_true h2]
      go_enter Tryd.func11, Tryd.ntmps11
      go_wp2_with (go_at_call 23; refine (HW.out _).mono ?_; rintro e w1 ⟨b, rfl, _, hB⟩)
      go_ret
      exact ⟨by simp <;> omega, hB⟩
    · rw [decide_eq_true h1, decide_eq_false h2]
      go_enter Tryd.func11, Tryd.ntmps11
      go_wp2_with (go_at_call 23; refine (HW.out _).mono ?_; rintro e w1 ⟨b, rfl, _, hB⟩)
      go_ret
      exact ⟨by simp <;> omega, hB⟩
  · rw [decide_eq_false h1]
    go_enter Tryd.func11, Tryd.ntmps11
    go_wp2
    go_ret
    exact ⟨by simp, Below.refl _ _⟩
theorem isF_yes {n : Nat} (h : n < 15) : isF (n : Int) = true := by
  unfold isF
  rw [decide_eq_true (by omega), decide_eq_true (by omega)]
  rfl
theorem wordB_in {n : Nat} (h : n < 15) : wordB (n : Int) = wordN n := by
  unfold wordB
  rw [if_pos (isF_yes h)]
  rfl
theorem wordB_out {f : Int} (h : isF f = false) : wordB f = ⟨#[]⟩ := by
  unfold wordB
  rw [if_neg (by simp [h])]
theorem isF_of {f : Int} (h : isF f = true) : ∃ n : Nat, f = n ∧ n < 15 := by
  unfold isF at h
  rw [Bool.and_eq_true, decide_eq_true_eq, decide_eq_true_eq] at h
  exact ⟨f.toNat, by omega, by omega⟩
set_option maxHeartbeats 400000 in
theorem rword_any (f : Int) (w : World) :
    Calls Tryd.prog 12 #[.int .i64 f] w fun e w' => e = .returned (.string (wordB f)) ∧ Below w.heap.size w w' := by
  have HI := Lib.hid (fun W => ris_any f W)
  have HW := Lib.hid (fun W => rwords_any W)
  cases hf : isF f
  · rw [hf] at HI
    rw [wordB_out hf]
    clear hf HW
    go_enter Tryd.func12, Tryd.ntmps12
    go_wp2_with (go_at_call 11; refine (HI.out _).mono ?_; rintro e w1 ⟨rfl, hB⟩)
    go_ret
    exact ⟨rfl, hB⟩
  · rw [hf] at HI
    obtain ⟨n, rfl, hn⟩ := isF_of hf
    rw [wordB_in hn]
    clear hf
    go_enter Tryd.func12, Tryd.ntmps12
    go_wp2_with (first
      | (go_at_call 11; refine (HI.out _).mono ?_; rintro e w1 ⟨rfl, hB⟩; have HB := Lib.hid hB; clear hB)
      | (go_at_call 23; refine (HW.out _).mono ?_; rintro e w2 ⟨b, rfl, hc0, hB2⟩; have hc := hc0 n hn; clear hc0; have HB2 := Lib.hid (on_trans HB.out hB2); clear hB2))
    go_ret
    exact ⟨rfl, HB2.out⟩
/-- Which fault has this word: the first such place, or none. -/
def NoWord (s : ByteArray) (k : Nat) : Prop := ∀ j, j < k → wordN j ≠ s
def ofIs (s : ByteArray) : Bool := (List.range 15).any (fun j => decide (wordN j = s))
def ofV (s : ByteArray) : Nat := ((List.range 15).find? (fun j => decide (wordN j = s))).getD 0
theorem NoWord.succ {s : ByteArray} {k : Nat} (h : NoWord s k) (hn : wordN k ≠ s) : NoWord s (k + 1) := fun j hj => by
  by_cases e : j = k
  · subst e; exact hn
  · exact h j (by omega)
theorem of_hit {s : ByteArray} {k : Nat} (h : NoWord s k) (hk : k < 15) (he : wordN k = s) : ofV s = k ∧ ofIs s = true := by
  refine ⟨?_, ?_⟩
  · unfold ofV
    have : (List.range 15).find? (fun j => decide (wordN j = s)) = some k := by
      rw [List.find?_range_eq_some]
      exact ⟨by simpa using he, by simpa using hk, fun j hj => by simpa using h j hj⟩
    rw [this]
    rfl
  · unfold ofIs
    rw [List.any_eq_true]
    exact ⟨k, by simpa using hk, by simpa using he⟩
theorem of_miss {s : ByteArray} (h : NoWord s 15) : ofV s = 0 ∧ ofIs s = false := by
  have hh : ∀ j ∈ List.range 15, ¬ decide (wordN j = s) = true := fun j hj => by simpa using h j (by simpa using hj)
  refine ⟨?_, ?_⟩
  · unfold ofV
    rw [List.find?_eq_none.2 hh]
    rfl
  · unfold ofIs
    rw [List.any_eq_false]
    exact hh
set_option maxHeartbeats 1000000 in
theorem rof_any (s : ByteArray) (w : World) :
    Calls Tryd.prog 8 #[.string s] w fun e w' => e = .returned (.tuple #[.int .i64 (ofV s : Nat), .bool (ofIs s)]) ∧ Below w.heap.size w w' := by
  have HW := Lib.hid (fun W => rwords_any W)
  go_enter Tryd.func8, Tryd.ntmps8
  go_wp2
  go_loopw [4] (fun i wr => ∃ k : Nat, k ≤ 15 ∧ i = .int .i64 k ∧ Hid (NoWord s k) ∧ Hid (Below w.heap.size w wr)) (fun i _ => 15 - (RowKit.intOf i).toNat)
  case atStart => exact ⟨0, by omega, rfl, Lib.hid fun j h => by omega, Lib.hid (Below.refl _ _)⟩
  case round =>
    obtain ⟨k, hk, rfl, HN, HB⟩ := hrel
    by_cases hlt : k < 15
    · by_cases he : wordN k = s
      · have HX := Lib.hid (of_hit HN.out hlt he)
        have HE := Lib.hid he
        clear he
        go_wp2_with (go_at_call 23; refine (HW.out _).mono ?_; rintro e w1 ⟨b, rfl, hc0, hB⟩; have hc := hc0 k hlt; rw [HE.out] at hc; clear hc0; have HB := Lib.hid (on_trans HB.out hB); clear hB)
        go_ret2
        exact ⟨by rw [HX.out.1, HX.out.2]; rfl, HB.out⟩
      · have HN2 := Lib.hid (HN.out.succ he)
        have hne := str_ne he
        obtain ⟨x, hx⟩ : ∃ x, wordN k = x := ⟨_, rfl⟩
        rw [hx] at hne
        have HE := Lib.hid hx
        clear he hx
        go_wp2_with (go_at_call 23; refine (HW.out _).mono ?_; rintro e w1 ⟨b, rfl, hc0, hB⟩; have hc := hc0 k hlt; rw [HE.out] at hc; clear hc0; have HB := Lib.hid (on_trans HB.out hB); clear hB)
        go_roundw
        case rel => exact ⟨k + 1, by omega, by go_num, HN2, HB⟩
        case measure => simp [RowKit.intOf] <;> omega
    · obtain rfl : k = 15 := by omega
      have HX := Lib.hid (of_miss HN.out)
      go_wp2_with (go_at_call 23; refine (HW.out _).mono ?_; rintro e w1 ⟨b, rfl, hc0, hB⟩; clear hc0; have HB := Lib.hid (on_trans HB.out hB); clear hB)
      go_ret2
      exact ⟨by rw [HX.out.1, HX.out.2]; rfl, HB.out⟩
/-- What an error tells. -/
def toldB (f : Int) (s : ByteArray) : ByteArray := if s.size = 0 then wordB f else wordB f ++ ⟨#[32]⟩ ++ s
theorem wordN_len (n : Nat) : (wordN n).size ≤ 8 := by
  unfold wordN
  by_cases h : n < 15
  · have : ∀ m : Fin 15, (wordsL.getD m.1 ⟨#[]⟩).size ≤ 8 := by decide
    exact this ⟨n, h⟩
  · rw [List.getD_eq_getElem?_getD, List.getElem?_eq_none (by have : wordsL.length = 15 := rfl; omega)]
    exact Nat.zero_le _
theorem wordB_len (f : Int) : (wordB f).size ≤ 8 := by
  unfold wordB
  split
  · exact wordN_len _
  · exact Nat.zero_le _
theorem size_zero {s : ByteArray} (h : s.size = 0) : s = ⟨#[]⟩ := by
  rw [← Lib.mk_data s]
  have : s.data.toList.length = 0 := by rw [← Lib.size_eq]; exact h
  rw [List.length_eq_zero_iff.1 this]
set_option maxHeartbeats 400000 in
theorem rtold_any (f : Int) (s : ByteArray) (hs : s.size ≤ 1000) (w : World) :
    Calls Tryd.prog 20 #[.int .i64 f, .string s] w fun e w' => e = .returned (.string (toldB f s)) ∧ Below w.heap.size w w' := by
  have HW := Lib.hid (fun W => rword_any f W)
  by_cases h0 : s.size = 0
  · obtain rfl := size_zero h0
    have HT := Lib.hid (show toldB f ⟨#[]⟩ = wordB f from if_pos rfl)
    go_enter Tryd.func20, Tryd.ntmps20
    go_wp2_with (go_at_call 12; refine (HW.out _).mono ?_; rintro e w1 ⟨rfl, hB⟩)
    go_ret
    exact ⟨by rw [HT.out]; rfl, hB⟩
  · have HT := Lib.hid (show toldB f s = wordB f ++ ⟨#[32]⟩ ++ s from if_neg h0)
    have hne : (s.toList == ([] : List UInt8)) = false := by
      rw [Lib.toList_data, beq_eq_false_iff_ne]
      intro e
      exact h0 (by rw [Lib.size_eq, e]; rfl)
    have hl := wordB_len f
    have hadd1 := fun W => run_string_add_sum (P := Tryd.prog) W (wordB f) ⟨#[32]⟩ (by show _ + 1 ≤ _; omega)
    have hadd2 := fun W => run_string_add_sum (P := Tryd.prog) W (wordB f ++ ⟨#[32]⟩) s (by rw [ByteArray.size_append]; show _ + 1 + _ ≤ _; omega)
    obtain ⟨x, hx⟩ : ∃ x, wordB f = x := ⟨_, rfl⟩
    rw [hx] at HW hadd1 hadd2 HT
    obtain ⟨y, hy⟩ : ∃ y, x ++ ⟨#[32]⟩ = y := ⟨_, rfl⟩
    rw [hy] at hadd1 hadd2 HT
    obtain ⟨z, hz⟩ : ∃ z, y ++ s = z := ⟨_, rfl⟩
    rw [hz] at hadd2 HT
    clear hx hy hz hl h0
    go_enter Tryd.func20, Tryd.ntmps20
    go_wp2_with (go_at_call 12; refine (HW.out _).mono ?_; rintro e w1 ⟨rfl, hB⟩)
    go_ret
    exact ⟨by rw [HT.out]; rfl, hB⟩
end Go.Proofs.YtmhekahfgmmeaaaDoor
