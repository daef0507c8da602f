import Derived.Test.YtagpmjpkbnfhnaaTokI
import Derived.Test.YtagpmjpkbnfhnaaTokC
set_option linter.unusedVariables false
set_option linter.unusedSimpArgs false
namespace Go.Proofs.Ytagpmjpkbnfhnaa
open Go.RowKit
set_option maxHeartbeats 400000 in
theorem rjoin_none (a : Option Addr) (c : Nat) (w : World) :
    Calls Try.prog 20 #[.slice a 0 c] w fun e w' => e = .returned (.tuple #[.string ⟨#[]⟩, .int .i64 0]) ∧ w' = w := by
  go_enter Try.func20, Try.ntmps20
  go_wp2
  refine wp_loop_rounds 1 ?_
  rw [rounds_succ]
  go_wp2
  refine wp_loop_rounds 1 ?_
  rw [rounds_succ]
  go_wp2
  go_ret2
  exact ⟨rfl, rfl⟩
theorem rjoin_any {v : Value} {xs : List ByteArray} (hb : xs.length ≤ 16384) (hf : lens1 xs ≤ 65537) (hz : ∀ x ∈ xs, x.size ≤ maxLen) (w : World) (h : StrsAt w v xs) :
    Calls Try.prog 20 #[v] w fun e w' => e = .returned (.tuple #[.string (joinV xs), .int .i64 (joinF xs)]) ∧ w' = w := by
  obtain ⟨a1, c1, rfl, _, g1⟩ := h
  by_cases h0 : xs.length = 0
  · obtain rfl := List.length_eq_zero_iff.1 h0
    exact rjoin_none a1 c1 w
  · obtain ⟨b1, o1, rfl, k1⟩ := g1 (by omega)
    exact rjoin_some b1 o1 c1 xs hb hf hz w (Lib.hid k1)
set_option maxHeartbeats 400000 in
theorem twords_any (s : ByteArray) (hs : s.size ≤ maxLen) (w : World) :
    Calls Try.prog 8 #[.string s] w fun e w' => ∃ v, e = .returned (.tuple #[v, .int .i64 (wordsF s)]) ∧ StrsAt w' v (wordsV s) ∧ Below w.heap.size w w' := by
  by_cases hbig : s.size ≤ 65536
  · exact twords_ok s hbig w
  · have HN := Lib.hid (words_long (s := s) (by omega))
    unfold maxLen at hs
    go_enter Try.func8, Try.ntmps8
    go_wp2
    refine wp_scope_labels (fun _ _ _ => False) (fun _ _ _ => 0) ?_ (fun _ _ _ h => h.elim)
    go_wp2
    simp only [jumps]
    go_ret2
    exact ⟨_, by rw [HN.out.2]; rfl, by rw [HN.out.1]; exact StrsAt.none _ _ _, Below.refl _ _⟩
set_option maxHeartbeats 400000 in
theorem rwords_any (s : ByteArray) (hs : s.size ≤ maxLen) (w : World) :
    Calls Try.prog 9 #[.string s] w fun e w' => ∃ v, e = .returned (.tuple #[v, .int .i64 (wordsF s)]) ∧ StrsAt w' v (wordsV s) ∧ Below w.heap.size w w' := by
  by_cases hbig : s.size ≤ 65536
  · exact rwords_ok s hbig w
  · have HN := Lib.hid (words_long (s := s) (by omega))
    unfold maxLen at hs
    go_enter Try.func9, Try.ntmps9
    go_wp2
    go_ret2
    exact ⟨_, by rw [HN.out.2]; rfl, by rw [HN.out.1]; exact StrsAt.none _ _ _, Below.refl _ _⟩
theorem same_yes {v1 v2 : Value} {xs : List ByteArray} (hb : xs.length ≤ 4000000) (w : World) (h1 : StrsAt w v1 xs) (h2 : StrsAt w v2 xs) :
    Calls Try.prog 10 #[v1, v2] w fun e w' => e = .returned (.bool true) ∧ Below w.heap.size w w' := by
  have h := same_any hb w h1 h2
  rw [decide_eq_true rfl] at h
  exact h
theorem two_at (w : World) (x y : ByteArray) (t : TypeId) : StrsAt (w.alloc (.cells #[.string x, .string y] t)) (.slice (some ⟨w.heap.size, 0, none⟩) 2 2) [x, y] := by
  refine ⟨_, 2, rfl, Nat.le_refl _, fun _ => ⟨w.heap.size, 0, rfl, fun j z hz => ?_⟩⟩
  rw [Nat.zero_add, World.cell?_alloc_new]
  match j, hz with
  | 0, hz => simpa using hz
  | 1, hz => simpa using hz
set_option maxHeartbeats 1000000 in
theorem alive_any (w : World) :
    Calls Try.prog 7 #[] w fun e w' => e = .returned (.bool true) ∧ Below w.heap.size w w' := by
  have HW := Lib.hid (fun W => twords_any ⟨#[32, 97, 9, 32, 98]⟩ (by decide) W)
  have HU := Lib.hid (fun W => tupper_any ⟨#[97, 90]⟩ (by decide) W)
  rw [show wordsF ⟨#[32, 97, 9, 32, 98]⟩ = 0 by decide, show wordsV ⟨#[32, 97, 9, 32, 98]⟩ = [⟨#[97]⟩, ⟨#[98]⟩] by decide] at HW
  rw [show upB ⟨#[97, 90]⟩ = ⟨#[65, 90]⟩ by decide] at HU
  go_enter Try.func7, Try.ntmps7
  go_wp2_with (first
    | (go_at_call 8; refine (HW.out _).mono ?_; rintro e w1 ⟨v, rfl, hS, hB1⟩; have HS := Lib.hid hS; have HB1 := Lib.hid hB1; clear hS hB1)
    | (go_at_call 10; refine (same_yes (by decide) _ (HS.out.on ((Below.refl _ _).alloc (Nat.le_refl _) _)) (two_at _ _ _ _)).mono ?_; rintro e w2 ⟨rfl, hB2⟩; have HB2 := Lib.hid (HB1.out.trans (((Below.refl _ _).alloc (Nat.le_refl _) _).trans (hB2.mono (by simp)) |>.mono HB1.out.size)); clear hB2)
    | (go_at_call 11; refine (HU.out _).mono ?_; rintro e w3 ⟨rfl, hB3⟩; have HB3 := Lib.hid (HB2.out.trans (hB3.mono HB2.out.size)); clear hB3))
  go_ret
  exact ⟨rfl, HB3.out⟩
end Go.Proofs.Ytagpmjpkbnfhnaa
