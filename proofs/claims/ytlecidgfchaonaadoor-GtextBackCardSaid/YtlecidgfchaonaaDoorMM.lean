import Derived.Test.YtlecidgfchaonaaDoorML
import Derived.Test.YtlecidgfchaonaaDoorMK
import Derived.Test.YtlecidgfchaonaaDoorME
set_option linter.unusedVariables false
set_option linter.unusedSimpArgs false
namespace Go.Proofs.YtlecidgfchaonaaDoor
open Go.RowKit
theorem dg_parse (n : Nat) (h : n < 18446744073709551616) : parseF (dg n).data.toList = 0 ∧ parseV (dg n).data.toList = n := by
  have := parse_dd n h
  exact ⟨by simpa [dg] using this.2, by simpa [dg] using this.1⟩
theorem dg_of {x : ByteArray} (h : parseF x.data.toList = 0) : dg (parseV x.data.toList) = x := by
  have := (parse_ok h).2
  unfold dg
  rw [this]
/-- A step whose word is a number's digits. -/
theorem run_dg {l : List ByteArray} {k nd N n : Nat} {es : List Ed} (h : parseG l = runP l (l.length + 2 - k) k nd N es) (hk : k < nd) (hx : l[k]? = some (dg n)) (hn : n < 18446744073709551616) (hf : numF N es k n = 0) :
    parseG l = runP l (l.length + 2 - (k + 1)) (k + 1) (if k = 1 then 2 + 3 * n else nd) (takeN N k n) (takeE es k n) := by
  obtain ⟨h1, h2⟩ := dg_parse n hn
  have := run_good h hk hx (by unfold wordF; rw [if_neg (fun x => x h1), h2]; exact hf)
  rwa [h2] at this
theorem flat_at3 : ∀ (es : List Ed) (j : Nat) (e : Ed) (i : Nat), es[j]? = some e → i < 3 → (es.flatMap edW)[3 * j + i]? = (edW e)[i]?
  | [], j, e, i, h, _ => by simp at h
  | x :: es, 0, e, i, h, hi => by
    obtain rfl : x = e := by simpa using h
    rw [List.flatMap_cons, Nat.mul_zero, Nat.zero_add, List.getElem?_append_left (by simpa [edW] using hi)]
  | x :: es, j + 1, e, i, h, hi => by
    have h0 : es[j]? = some e := by simpa using h
    have h2 : (edW x).length = 3 := rfl
    rw [List.flatMap_cons, List.getElem?_append_right (by omega), h2, show 3 * (j + 1) + i - 3 = 3 * j + i by omega]
    exact flat_at3 es j e i h0 hi
theorem words_at {N : Nat} {es : List Ed} {j : Nat} {e : Ed} {i : Nat} (h : es[j]? = some e) (hi : i < 3) : (wordsG N es)[2 + 3 * j + i]? = (edW e)[i]? := by
  unfold wordsG
  rw [show 2 + 3 * j + i = (3 * j + i) + 1 + 1 by omega, List.getElem?_cons_succ, List.getElem?_cons_succ]
  exact flat_at3 es j e i h hi
theorem back_edges {N : Nat} {es : List Ed} (hr : rightF N es = 0) : ∀ j, j ≤ es.length → parseG (wordsG N es) = runP (wordsG N es) ((wordsG N es).length + 2 - (2 + 3 * j)) (2 + 3 * j) (2 + 3 * es.length) N (es.take j)
  | 0, _ => by
    obtain ⟨r1, r2, r3, r4⟩ := right_ends hr
    have h0 : parseG (wordsG N es) = runP (wordsG N es) ((wordsG N es).length + 2 - 0) 0 2 0 [] := rfl
    have h1 := run_dg h0 (by omega) (n := N) rfl (by omega) (by unfold numF; rw [if_pos rfl, if_neg (by omega)])
    rw [if_neg (by decide), show takeN 0 0 N = N from rfl, show takeE [] 0 N = [] from rfl] at h1
    have h2 := run_dg h1 (by omega) (n := es.length) rfl (by omega) (by unfold numF; rw [if_neg (by omega), if_pos rfl, if_neg (by omega)])
    rw [if_pos rfl] at h2
    exact h2
  | j + 1, hj => by
    have ih := back_edges hr j (by omega)
    obtain ⟨r1, r2, r3, r4⟩ := right_ends hr
    have he0 : es[j]? = some (es[j]'(by omega)) := List.getElem?_eq_getElem (by omega)
    obtain ⟨⟨f, t, x⟩, he⟩ : ∃ e, es[j]'(by omega) = e := ⟨_, rfl⟩
    rw [he] at he0
    have hq := r4 ⟨f, t, x⟩ (he ▸ List.getElem_mem _)
    simp only at hq
    obtain ⟨n1, n2, n3, n4, n5, n6, n7⟩ := hq
    obtain ⟨F, rfl⟩ : ∃ F : Nat, f = F := ⟨f.toNat, by omega⟩
    obtain ⟨T, rfl⟩ : ∃ T : Nat, t = T := ⟨t.toNat, by omega⟩
    have w0 := words_at (N := N) he0 (i := 0) (by omega)
    have w1 := words_at (N := N) he0 (i := 1) (by omega)
    have w2 := words_at (N := N) he0 (i := 2) (by omega)
    have s1 := run_dg ih (by omega) (n := F) w0 (by omega) (by unfold numF; rw [if_neg (by omega), if_neg (by omega), if_neg (by omega), if_neg (by omega)])
    rw [if_neg (by omega)] at s1
    have e1 : takeE (es.take j) (2 + 3 * j) F = es.take j ++ [⟨(F : Int), 0, 0⟩] := by unfold takeE; rw [if_neg (by omega), if_pos (by omega)]
    have t1 : takeN N (2 + 3 * j) F = N := by unfold takeN; rw [if_neg (by omega)]
    rw [e1, t1] at s1
    have s2 := run_dg s1 (by omega) (n := T) w1 (by omega) (by unfold numF; rw [if_neg (by omega), if_neg (by omega), if_neg (by omega), lastF_snoc, if_neg (by simp only; omega)])
    rw [if_neg (by omega)] at s2
    have e2 : takeE (es.take j ++ [⟨(F : Int), 0, 0⟩]) (2 + 3 * j + 1) T = es.take j ++ [⟨(F : Int), (T : Int), 0⟩] := by unfold takeE; rw [if_neg (by omega), if_neg (by omega), if_pos (by omega), modify_last]
    have t2 : takeN N (2 + 3 * j + 1) T = N := by unfold takeN; rw [if_neg (by omega)]
    rw [e2, t2] at s2
    have s3 := run_dg s2 (by omega) (n := x) w2 (by omega) (by unfold numF; rw [if_neg (by omega), if_neg (by omega), if_pos (by omega), if_neg (by omega)])
    rw [if_neg (by omega)] at s3
    have e3 : takeE (es.take j ++ [⟨(F : Int), (T : Int), 0⟩]) (2 + 3 * j + 1 + 1) x = es.take (j + 1) := by
      unfold takeE
      rw [if_neg (by omega), if_neg (by omega), if_neg (by omega), modify_last, List.take_succ_eq_append_getElem (by omega), he]
    have t3 : takeN N (2 + 3 * j + 1 + 1) x = N := by unfold takeN; rw [if_neg (by omega)]
    rw [e3, t3] at s3
    rw [show 2 + 3 * (j + 1) = 2 + 3 * j + 1 + 1 + 1 by omega]
    exact s3
/-- What is printed as words is read as it was. -/
theorem parse_words {N : Nat} {es : List Ed} (hr : rightF N es = 0) : parseG (wordsG N es) = ((N : Int), es, 0, 0) := by
  have h := back_edges hr es.length (Nat.le_refl _)
  rw [List.take_length] at h
  have := run_end h (by omega) (by rw [wordsG_len]; omega)
  rw [this, if_neg (by rw [wordsG_len]; omega)]
def okE (N : Nat) (e : Ed) : Prop := 0 ≤ e.f ∧ e.f < N ∧ 0 ≤ e.t ∧ e.t < N ∧ e.f ≠ e.t ∧ 1 ≤ e.w ∧ e.w ≤ 4294967296
theorem right_of {N : Nat} {es : List Ed} (h1 : 1 ≤ N) (h2 : N ≤ 4096) (h3 : es.length ≤ 16384) (h : ∀ e ∈ es, okE N e) : rightF N es = 0 := by
  unfold rightF
  rw [if_neg (by omega), if_neg (by omega), if_pos, if_pos]
  · rw [List.all_eq_true]
    intro e he
    have := h e he
    unfold okE at this
    simp [weightB]
    omega
  · rw [List.all_eq_true]
    intro e he
    have := h e he
    unfold okE at this
    simp [endsB, nodeB]
    omega
/-- What the first k words are, and the graph so far. -/
def Wd (l : List ByteArray) (k nd N : Nat) (es : List Ed) : Prop :=
  (k = 0 ∧ N = 0 ∧ es = [] ∧ nd = 2) ∨ (k = 1 ∧ es = [] ∧ nd = 2 ∧ 1 ≤ N ∧ N ≤ 4096 ∧ l.take 1 = [dg N]) ∨
  (∃ (M : Nat) (es0 : List Ed), M ≤ 16384 ∧ nd = 2 + 3 * M ∧ k ≤ nd ∧ 1 ≤ N ∧ N ≤ 4096 ∧ (∀ e ∈ es0, okE N e) ∧
    ((k = 2 + 3 * es0.length ∧ es = es0 ∧ l.take k = dg N :: dg M :: es0.flatMap edW) ∨
     (k = 3 + 3 * es0.length ∧ ∃ f : Nat, f < N ∧ es = es0 ++ [⟨f, 0, 0⟩] ∧ l.take k = (dg N :: dg M :: es0.flatMap edW) ++ [dg f]) ∨
     (k = 4 + 3 * es0.length ∧ ∃ f t : Nat, f < N ∧ t < N ∧ f ≠ t ∧ es = es0 ++ [⟨f, t, 0⟩] ∧ l.take k = (dg N :: dg M :: es0.flatMap edW) ++ [dg f, dg t])))
theorem wd_step {l : List ByteArray} {k nd N n : Nat} {es : List Ed} (h : Wd l k nd N es) (hk : k < nd) (hx : l[k]? = some (dg n)) (hf : numF N es k n = 0) : Wd l (k + 1) (if k = 1 then 2 + 3 * n else nd) (takeN N k n) (takeE es k n) := by
  have htk : l.take (k + 1) = l.take k ++ [dg n] := by
    obtain ⟨hk, e⟩ := List.getElem?_eq_some_iff.1 hx
    rw [List.take_succ_eq_append_getElem hk, e]
  rcases h with ⟨rfl, rfl, rfl, rfl⟩ | ⟨rfl, rfl, rfl, h1, h2, h3⟩ | ⟨M, es0, hM, rfl, hkn, h1, h2, hok, h⟩
  · unfold numF at hf
    rw [if_pos rfl] at hf
    split at hf
    · cases hf
    · refine .inr (.inl ⟨rfl, rfl, rfl, ?_, ?_, ?_⟩)
      · show 1 ≤ n; omega
      · show n ≤ 4096; omega
      · rw [htk]; rfl
  · unfold numF at hf
    rw [if_neg (by decide), if_pos rfl] at hf
    split at hf
    · cases hf
    · refine .inr (.inr ⟨n, [], by omega, by rw [if_pos rfl], by rw [if_pos rfl]; omega, h1, h2, fun e he => by simp at he, .inl ⟨rfl, rfl, ?_⟩⟩)
      rw [htk, h3]; rfl
  · have hN : takeN N k n = N := by unfold takeN; rw [if_neg (by omega)]
    rw [hN, if_neg (by omega)]
    unfold numF at hf
    rw [if_neg (by omega), if_neg (by omega)] at hf
    rcases h with ⟨rfl, rfl, ht⟩ | ⟨rfl, f, hfN, rfl, ht⟩ | ⟨rfl, f, t, hfN, htN, hft, rfl, ht⟩
    · rw [if_neg (by omega)] at hf
      split at hf
      · cases hf
      · rename_i hz
        have e1 : takeE es (2 + 3 * es.length) n = es ++ [⟨(n : Int), 0, 0⟩] := by unfold takeE; rw [if_neg (by omega), if_pos (by omega)]
        rw [e1]
        exact .inr (.inr ⟨M, es, hM, rfl, by omega, h1, h2, hok, .inr (.inl ⟨by omega, n, by omega, rfl, by rw [htk, ht]⟩)⟩)
    · rw [if_neg (by omega)] at hf
      split at hf
      · cases hf
      · rename_i hz
        rw [lastF_snoc] at hz
        have e1 : takeE (es0 ++ [⟨(f : Int), 0, 0⟩]) (3 + 3 * es0.length) n = es0 ++ [⟨(f : Int), (n : Int), 0⟩] := by unfold takeE; rw [if_neg (by omega), if_neg (by omega), if_pos (by omega), modify_last]
        rw [e1]
        refine .inr (.inr ⟨M, es0, hM, rfl, by omega, h1, h2, hok, .inr (.inr ⟨by omega, f, n, hfN, by omega, fun e => hz (.inr ⟨by omega, by rw [e]⟩), rfl, ?_⟩)⟩)
        rw [htk, ht, List.append_assoc]; rfl
    · rw [if_pos (by omega)] at hf
      split at hf
      · cases hf
      · rename_i hz
        have e1 : takeE (es0 ++ [⟨(f : Int), (t : Int), 0⟩]) (4 + 3 * es0.length) n = es0 ++ [⟨(f : Int), (t : Int), n⟩] := by unfold takeE; rw [if_neg (by omega), if_neg (by omega), if_neg (by omega), modify_last]
        rw [e1]
        refine .inr (.inr ⟨M, es0 ++ [⟨(f : Int), (t : Int), n⟩], hM, rfl, by omega, h1, h2, ?_, .inl ⟨by simp; omega, rfl, ?_⟩⟩)
        · intro e he
          rw [List.mem_append, List.mem_singleton] at he
          rcases he with he | rfl
          · exact hok e he
          · unfold okE; simp only; omega
        · rw [htk, ht, List.append_assoc, List.flatMap_append]
          simp [edW]
theorem run_words {l : List ByteArray} {PN : Int} {PE : List Ed} {PI : Int} : ∀ (fuel k nd N : Nat) (es : List Ed), Wd l k nd N es → k ≤ l.length → fuel = l.length + 2 - k → runP l fuel k nd N es = (PN, PE, PI, 0) → ∃ N' : Nat, PN = N' ∧ PI = 0 ∧ rightF N' PE = 0 ∧ wordsG N' PE = l := by
  intro fuel
  induction fuel with
  | zero => intro k nd N es _ hk hf; omega
  | succ fuel ih =>
    intro k nd N es hW hk hf h
    unfold runP at h
    split at h
    · rename_i hnd
      split at h
      · simp at h
      · rename_i hle
        simp only [Prod.mk.injEq] at h
        obtain ⟨rfl, rfl, rfl, _⟩ := h
        rcases hW with ⟨rfl, rfl, rfl, rfl⟩ | ⟨rfl, rfl, rfl, h1, h2, h3⟩ | ⟨M, es0, hM, rfl, hkn, h1, h2, hok, h⟩
        · omega
        · omega
        · rcases h with ⟨rfl, rfl, ht⟩ | ⟨rfl, f, hfN, rfl, ht⟩ | ⟨rfl, f, t, hfN, htN, hft, rfl, ht⟩
          · obtain rfl : M = es.length := by omega
            refine ⟨N, rfl, rfl, right_of h1 h2 hM hok, ?_⟩
            rw [List.take_of_length_le (by omega)] at ht
            exact ht.symm
          · omega
          · omega
    · rename_i hnd
      split at h
      · simp at h
      · rename_i x hx
        split at h
        · simp at h
        · rename_i hp
          split at h
          · rename_i hq
            simp only [Prod.mk.injEq] at h
            exact absurd h.2.2.2 hq
          · rename_i hq
            have hlt := (List.getElem?_eq_some_iff.1 hx).1
            have hp0 : parseF x.data.toList = 0 := by simpa using hp
            have hx' : l[k]? = some (dg (parseV x.data.toList)) := by rw [dg_of hp0]; exact hx
            exact ih (k + 1) _ _ _ (wd_step hW (by omega) hx' (by simpa using hq)) (by omega) (by omega) h
/-- What is read has just those words, and may be. -/
theorem words_parse {l : List ByteArray} (h : (parseG l).2.2.2 = 0) : ∃ N : Nat, (parseG l).1 = N ∧ rightF N (parseG l).2.1 = 0 ∧ wordsG N (parseG l).2.1 = l := by
  obtain ⟨⟨PN, PE, PI, PF⟩, hp⟩ : ∃ q, parseG l = q := ⟨_, rfl⟩
  rw [hp] at h
  simp only at h
  subst h
  rw [hp]
  obtain ⟨N, h1, _, h2, h3⟩ := run_words _ 0 2 0 [] (.inl ⟨rfl, rfl, rfl, rfl⟩) (Nat.zero_le _) rfl hp
  exact ⟨N, h1, h2, h3⟩
theorem parse_fault0 {l : List ByteArray} (h : (parseG l).2.2.2 ≠ 0) : (parseG l).1 = 0 ∧ (parseG l).2.1 = [] := by
  have key : ∀ fuel k nd N es, (runP l fuel k nd N es).2.2.2 ≠ 0 → (runP l fuel k nd N es).1 = 0 ∧ (runP l fuel k nd N es).2.1 = [] := by
    intro fuel
    induction fuel with
    | zero => intro k nd N es h; exact absurd rfl h
    | succ fuel ih =>
      intro k nd N es h
      unfold runP at h ⊢
      split
      · rename_i h1
        rw [if_pos h1] at h
        split
        · exact ⟨rfl, rfl⟩
        · rename_i h2
          rw [if_neg h2] at h
          exact absurd rfl h
      · rename_i h1
        rw [if_neg h1] at h
        split
        · exact ⟨rfl, rfl⟩
        · rename_i x hx
          rw [hx] at h
          simp only at h
          split
          · exact ⟨rfl, rfl⟩
          · rename_i h3
            rw [if_neg h3] at h
            split
            · exact ⟨rfl, rfl⟩
            · rename_i h4
              rw [if_neg h4] at h
              exact ih _ _ _ _ h
  exact key _ _ _ _ _ h
end Go.Proofs.YtlecidgfchaonaaDoor

namespace Go.Proofs.YtlecidgfchaonaaDoor
open Go.RowKit
attribute [local go_sem ↓] Go.wp_at_zero Go.wp_at_succ
/-- The graph in its variable, the list beside it, and what is known of the world. -/
def QL (w0 : World) (B : Nat) (n : Int) (v : Value) (es : List Ed) (u : Value) (l : List ByteArray) (w : World) : Prop := w.cell? ⟨B, 0, none⟩ = some (.int .i64 n) ∧ w.cell? ⟨B, 1, none⟩ = some v ∧ EdgesAt w v es ∧ Below w0.heap.size w0 w ∧ Pow10 w ∧ StrsAt w u l
theorem QL.on {w0 W w1 : World} {B : Nat} {n : Int} {v : Value} {es : List Ed} {u : Value} {l : List ByteArray} (hb : Below W.heap.size W w1) (h : QL w0 B n v es u l W) : QL w0 B n v es u l w1 := ⟨cell_on hb h.1, cell_on hb h.2.1, h.2.2.1.on hb, on_trans h.2.2.2.1 hb, pow_on h.2.2.2.2.1 hb, h.2.2.2.2.2.on hb⟩
theorem edges_form0 {w : World} {v : Value} (h : EdgesAt w v []) : ∃ a c, v = .slice a 0 c ∧ EdgesAt w (.slice a 0 c) [] := by
  have h' := h
  obtain ⟨a, c, rfl, _⟩ := h
  exact ⟨a, c, rfl, h'⟩
theorem wordsG_size {N : Nat} {es : List Ed} (hr : rightF N es = 0) : ∀ x ∈ wordsG N es, x.size ≤ maxLen := by
  obtain ⟨r1, r2, r3, r4⟩ := right_ends hr
  intro x hx
  have key : ∃ u, u < 18446744073709551616 ∧ x = dg u := by
    unfold wordsG at hx
    rw [List.mem_cons, List.mem_cons, List.mem_flatMap] at hx
    rcases hx with rfl | rfl | ⟨e, he, hx⟩
    · exact ⟨N, by omega, rfl⟩
    · exact ⟨es.length, by omega, rfl⟩
    · have := r4 e he
      simp [edW] at hx
      rcases hx with rfl | rfl | rfl
      · exact ⟨_, by omega, rfl⟩
      · exact ⟨_, by omega, rfl⟩
      · exact ⟨_, by omega, rfl⟩
  obtain ⟨u, hu, rfl⟩ := key
  have := dg_size u hu
  unfold maxLen
  omega
set_option maxHeartbeats 1000000 in
theorem gback_out (G : GtSpec) (n : Int) (es : List Ed) (a : Option Addr) (m c : Nat) (hm : es.length = m) (u : Value) (l : List ByteArray) (h0 : lightB n m = false ∨ light6 l = false) (w : World) (hE : EdgesAt w (.slice a m c) es) (hS : StrsAt w u l) (htab : Pow10 w) :
    Calls Tryd.prog 5 #[.agg #[.int .i64 n, .slice a m c], u] w fun e w' => e = .returned (.bool true) ∧ Below w.heap.size w w' := by
  have HA := Lib.hid (fun W ht => alive6_any G W ht)
  have hb0 := (Below.refl w.heap.size w).alloc (Nat.le_refl _) (.cells #[.int .i64 n, .slice a m c] 24)
  have HQ0 : Hid (QL w w.heap.size n (.slice a m c) es u l (w.alloc (.cells #[.int .i64 n, .slice a m c] 24))) := Lib.hid ⟨by simp, by simp, hE.on hb0, hb0, pow_on htab hb0, hS.on hb0⟩
  have HL := Lib.hid (fun W => light_any n a m c W)
  have HL6 := Lib.hid (fun W (h : StrsAt W u l) => light6_any W h)
  have hlc : lightB n m = false ∨ (lightB n m = true ∧ light6 l = false) := by
    rcases h0 with h | h
    · exact .inl h
    · cases hx : lightB n m
      · exact .inl rfl
      · exact .inr ⟨rfl, h⟩
  rcases hlc with h | ⟨h, h'⟩
  · rw [h] at HL
    clear h h0 hb0 hE hS htab hm HL6
    go_enter Tryd.func5, Tryd.ntmps5
    go_wp2_with (first
      | (go_at_call 6; refine (HL.out _).mono ?_; rintro e w1 ⟨rfl, hB⟩; have HQ1 := Lib.hid (HQ0.out.on hB); have c10 := HQ1.out.1; have c11 := HQ1.out.2.1; clear hB HL HQ0)
      | (go_at_call 7; refine (HA.out _ HQ1.out.2.2.2.2.1).mono ?_; rintro e w12 ⟨rfl, hB⟩; have HZ := Lib.hid (on_trans HQ1.out.2.2.2.1 hB); clear hB HA))
    go_ret
    exact ⟨by simp, HZ.out⟩
  · rw [h] at HL
    rw [h'] at HL6
    clear h h' h0 hb0 hE hS htab hm
    go_enter Tryd.func5, Tryd.ntmps5
    go_wp2_with (first
      | (go_at_call 6; refine (HL.out _).mono ?_; rintro e w1 ⟨rfl, hB⟩; have HQ1 := Lib.hid (HQ0.out.on hB); have c10 := HQ1.out.1; have c11 := HQ1.out.2.1; clear hB HL HQ0)
      | (go_at_call 13; refine (HL6.out _ HQ1.out.2.2.2.2.2).mono ?_; rintro e w' ⟨rfl, hw'⟩; obtain rfl := hw'.symm; clear HL6)
      | (go_at_call 7; refine (HA.out _ HQ1.out.2.2.2.2.1).mono ?_; rintro e w12 ⟨rfl, hB⟩; have HZ := Lib.hid (on_trans HQ1.out.2.2.2.1 hB); clear hB HA))
    go_ret
    exact ⟨by simp, HZ.out⟩
set_option maxHeartbeats 4000000 in
theorem gback_yy (G : GtSpec) (n : Int) (es : List Ed) (a : Option Addr) (m c : Nat) (hm : es.length = m) (u : Value) (l : List ByteArray) (hl : lightB n m = true) (hl6 : light6 l = true) (hg : gwordsF n es = 0) (hp : (parseG l).2.2.2 = 0) (w : World) (hE : EdgesAt w (.slice a m c) es) (hS : StrsAt w u l) (htab : Pow10 w) :
    Calls Tryd.prog 5 #[.agg #[.int .i64 n, .slice a m c], u] w fun e w' => e = .returned (.bool true) ∧ Below w.heap.size w w' := by
  have HA := Lib.hid (fun W ht => alive6_any G W ht)
  have hb0 := (Below.refl w.heap.size w).alloc (Nat.le_refl _) (.cells #[.int .i64 n, .slice a m c] 24)
  have HQ0 : Hid (QL w w.heap.size n (.slice a m c) es u l (w.alloc (.cells #[.int .i64 n, .slice a m c] 24))) := Lib.hid ⟨by simp, by simp, hE.on hb0, hb0, pow_on htab hb0, hS.on hb0⟩
  have HL := Lib.hid (fun W => light_any n a m c W)
  rw [hl] at HL
  have HL6 := Lib.hid (fun W (h : StrsAt W u l) => light6_any W h)
  rw [hl6] at HL6
  obtain ⟨l1, l2⟩ := light6_yes hl6
  have hz : ∀ x ∈ l, x.size ≤ maxLen := fun x hx => by have := l2 x hx; unfold maxLen; omega
  have hm3 : m ≤ 300 := by unfold lightB at hl; simp at hl; exact hl.2
  have HW := Lib.hid (fun W h ht => G.words n (.slice a m c) es W (by omega) h ht)
  have HPl := Lib.hid (fun W h ht => G.parse u l W (by omega) hz h ht)
  have hr : rightF n es = 0 := by
    unfold gwordsF at hg
    split at hg
    · assumption
    · cases hg
  have hv : gwordsV n es = wordsG n.toNat es := by unfold gwordsV; rw [if_pos hg]
  rw [hg, hv] at HW
  obtain ⟨r1, _, _, _⟩ := right_ends hr
  obtain ⟨N, hN⟩ : ∃ N : Nat, n = N := ⟨n.toNat, by omega⟩
  have hNn : n.toNat = N := by omega
  rw [hNn] at HW
  have hr' : rightF N es = 0 := by rw [← hN]; exact hr
  have HPa := Lib.hid (fun W v h ht => G.parse v (wordsG N es) W (by rw [wordsG_len]; omega) (fun x hx => wordsG_size hr' x hx) h ht)
  rw [parse_words hr', ← hN] at HPa
  have HPr := Lib.hid (fun W h ht => G.print n (.slice a m c) es W (by omega) h ht)
  have hpv : gprintV n es = textG N es := by unfold gprintV; rw [if_pos hr, hNn]
  have hpf : gprintF n es = 0 := by unfold gprintF; rw [if_pos hr]
  rw [hpv, hpf] at HPr
  have HRd := Lib.hid (fun W ht => G.read N es W hr' (by omega) ht)
  rw [← hN] at HRd
  have hme : decide (n = n ∧ es = es) = true := by simp
  have HM1 := Lib.hid (fun W v1 (h1 : EdgesAt W v1 es) (h2 : EdgesAt W (.slice a m c) es) => gsame_any n n (v1 := v1) (v2 := .slice a m c) (by omega) W h1 h2)
  have HM2 := Lib.hid (fun W v1 (h1 : EdgesAt W v1 es) (h2 : EdgesAt W (.slice a m c) es) => gsame_any n n (v1 := v1) (v2 := .slice a m c) (by omega) W h1 h2)
  rw [hme] at HM1 HM2
  generalize textG N es = TT at HPr HRd
  generalize wordsG N es = WW at HW HPa
  clear hv hpv hpf hr hr' hNn hN r1 hme
  obtain ⟨PM, hPM, hPr, hPw⟩ := words_parse hp
  rw [hp] at HPl
  obtain ⟨PN, hPN⟩ : ∃ x, (parseG l).1 = x := ⟨_, rfl⟩
  obtain ⟨PE, hPE⟩ : ∃ x, (parseG l).2.1 = x := ⟨_, rfl⟩
  obtain ⟨PI, hPI⟩ : ∃ x, (parseG l).2.2.1 = x := ⟨_, rfl⟩
  rw [hPN, hPE, hPI] at HPl
  rw [hPE] at hPr hPw
  have hPnm : PN = (PM : Int) := by rw [← hPN]; exact hPM
  have hwl := wordsG_len PM PE
  rw [hPw] at hwl
  have hgx : gwordsF PN PE = 0 := by
    unfold gwordsF
    rw [hPnm, if_pos hPr, if_neg (by omega)]
  have hvx : gwordsV PN PE = l := by
    unfold gwordsV
    rw [if_pos hgx, hPnm, Int.toNat_natCast]
    exact hPw
  have HWx := Lib.hid (fun W (v : Value) (h : EdgesAt W v PE) ht => G.words PN v PE W (by omega) h ht)
  rw [hgx, hvx] at HWx
  have HWx := Lib.hid (fun W {v : Value} (h : EdgesAt W v PE) ht => HWx.out W v h ht)
  have hml : decide (l = l) = true := by simp
  have HMl := Lib.hid (fun W v1 (h1 : StrsAt W v1 l) (h2 : StrsAt W u l) => same_any (v1 := v1) (v2 := u) (by omega) W h1 h2)
  rw [hml] at HMl
  have HRx := Lib.hid (fun W {v : Value} (h : EdgesAt W v PE) => gright_any PN W h)
  rw [hPnm, hPr, ← hPnm] at HRx
  clear hPM hPr hPw hPN hPE hPI hPnm hwl hgx hvx hml
  clear hp hg hl hl6 l1 l2 hz hm3 hb0 hE hS htab hm
  go_enter Tryd.func5, Tryd.ntmps5
  go_wp2_with (first
    | (go_at_call 6; refine (HL.out _).mono ?_; rintro e w1 ⟨rfl, hB⟩; have HQ1 := Lib.hid (HQ0.out.on hB); have c10 := HQ1.out.1; have c11 := HQ1.out.2.1; clear hB HL HQ0)
    | (go_at_call 13; refine (HL6.out _ HQ1.out.2.2.2.2.2).mono ?_; rintro e w' ⟨rfl, hw'⟩; obtain rfl := hw'.symm; clear HL6)
    | (go_at_call 8; refine (HW.out _ HQ1.out.2.2.1 HQ1.out.2.2.2.2.1).mono ?_; rintro e w2 ⟨v2, rfl, hS, hB⟩; have HQ2 := Lib.hid (HQ1.out.on hB); have HS2 := Lib.hid hS; clear hB HW HQ1 hS c10 c11)
    | (go_at_call 14; refine (HPa.out _ _ HS2.out HQ2.out.2.2.2.2.1).mono ?_; rintro e w3 ⟨v3, rfl, hE, hB⟩; obtain ⟨a3, c3, rfl, hE⟩ := edges_form hE; have ha := (Below.refl w3.heap.size w3).alloc (Nat.le_refl _) (.cells #[.int .i64 n, .slice a3 es.length c3] 24); have HQx := HQ2.out.on hB; have c30 := HQx.1; have c31 := HQx.2.1; have h3 : w.heap.size < w3.heap.size := World.block_lt_of_cell? w3 _ c30; have HQ3 := Lib.hid (HQx.on ha); have HE3 := Lib.hid (hE.on ha); clear hB hE ha HPa HQ2 HQx HS2)
    | (go_at_call 10; refine (HPr.out _ HQ3.out.2.2.1 HQ3.out.2.2.2.2.1).mono ?_; rintro e w4 ⟨rfl, hB⟩; have HQ4 := Lib.hid (HQ3.out.on hB); have d40 := cell_on hB (p := ⟨w3.heap.size, 0, none⟩) (v := .int .i64 n) (by simp); have d41 := cell_on hB (p := ⟨w3.heap.size, 1, none⟩) (v := .slice a3 es.length c3) (by simp); have HE4 := Lib.hid (HE3.out.on hB); clear hB HPr HQ3 HE3 c30 c31 h3)
    | (go_at_call 17; refine (HRd.out _ HQ4.out.2.2.2.2.1).mono ?_; rintro e w5 ⟨v5, rfl, hE, hB⟩; obtain ⟨a5, c5, rfl, hE⟩ := edges_form hE; have ha := (Below.refl w5.heap.size w5).alloc (Nat.le_refl _) (.cells #[.int .i64 n, .slice a5 es.length c5] 24); have HQx := HQ4.out.on hB; have c50 := HQx.1; have c51 := HQx.2.1; have d50 := cell_on hB d40; have d51 := cell_on hB d41; have h5 : w.heap.size < w5.heap.size := World.block_lt_of_cell? w5 _ c50; have h5b : w3.heap.size < w5.heap.size := World.block_lt_of_cell? w5 _ d50; have HQ5 := Lib.hid (HQx.on ha); have HE5 := Lib.hid (And.intro ((HE4.out.on hB).on ha) (hE.on ha)); clear hB hE ha HRd HQ4 HQx HE4 d40 d41)
    | (go_at_call 16; refine (HM1.out _ _ HE5.out.1 HQ5.out.2.2.1).mono ?_; rintro e w6 ⟨rfl, hB⟩; have HQ6 := Lib.hid (HQ5.out.on hB); have c60 := HQ6.out.1; have c61 := HQ6.out.2.1; have e60 := cell_on hB (p := ⟨w5.heap.size, 0, none⟩) (v := .int .i64 n) (by simp); have e61 := cell_on hB (p := ⟨w5.heap.size, 1, none⟩) (v := .slice a5 es.length c5) (by simp); have HE6 := Lib.hid (HE5.out.2.on hB); clear hB HM1 HQ5 HE5 c50 c51 d50 d51 h5 h5b)
    | (go_at_call 16; refine (HM2.out _ _ HE6.out HQ6.out.2.2.1).mono ?_; rintro e w7 ⟨rfl, hB⟩; have HQ7 := Lib.hid (HQ6.out.on hB); clear hB HM2 HQ6 HE6 c60 c61 e60 e61)
    | (go_at_call 14; refine (HPl.out _ HQ7.out.2.2.2.2.2 HQ7.out.2.2.2.2.1).mono ?_; rintro e w8 ⟨v8, rfl, hE, hB⟩; obtain ⟨a8, c8, rfl, hE⟩ := edges_form hE; have ha := (Below.refl w8.heap.size w8).alloc (Nat.le_refl _) (.cells #[.int .i64 PN, .slice a8 PE.length c8] 24); have HQ8 := Lib.hid ((HQ7.out.on hB).on ha); have HE8 := Lib.hid (hE.on ha); clear hB hE ha HPl HQ7)
    | (go_at_call 8; refine (HWx.out _ HE8.out HQ8.out.2.2.2.2.1).mono ?_; rintro e w9 ⟨v9, rfl, hS, hB⟩; have HQ9 := Lib.hid (HQ8.out.on hB); have HE9 := Lib.hid (HE8.out.on hB); have x90 := cell_on hB (p := ⟨w8.heap.size, 0, none⟩) (v := .int .i64 PN) (by simp); have x91 := cell_on hB (p := ⟨w8.heap.size, 1, none⟩) (v := .slice a8 PE.length c8) (by simp); have HS9 := Lib.hid hS; clear hB HWx HQ8 HE8 hS)
    | (go_at_call 12; refine (HMl.out _ _ HS9.out HQ9.out.2.2.2.2.2).mono ?_; rintro e w10 ⟨rfl, hB⟩; have HQ10 := Lib.hid (HQ9.out.on hB); have HE10 := Lib.hid (HE9.out.on hB); have x100 := cell_on hB x90; have x101 := cell_on hB x91; clear hB HMl HQ9 HE9 HS9 x90 x91)
    | (go_at_call 18; refine (HRx.out _ HE10.out).mono ?_; rintro e w11 ⟨rfl, hB⟩; have HQ11 := Lib.hid (HQ10.out.on hB); clear hB HRx HQ10 HE10 x100 x101)
    | (go_at_call 7; refine (HA.out _ HQ11.out.2.2.2.2.1).mono ?_; rintro e w12 ⟨rfl, hB⟩; have HZ := Lib.hid (on_trans HQ11.out.2.2.2.1 hB); clear hB HA))
  go_ret
  exact ⟨by simp, HZ.out⟩
set_option maxHeartbeats 4000000 in
theorem gback_yn (G : GtSpec) (n : Int) (es : List Ed) (a : Option Addr) (m c : Nat) (hm : es.length = m) (u : Value) (l : List ByteArray) (hl : lightB n m = true) (hl6 : light6 l = true) (hg : gwordsF n es = 0) (hp : (parseG l).2.2.2 ≠ 0) (w : World) (hE : EdgesAt w (.slice a m c) es) (hS : StrsAt w u l) (htab : Pow10 w) :
    Calls Tryd.prog 5 #[.agg #[.int .i64 n, .slice a m c], u] w fun e w' => e = .returned (.bool true) ∧ Below w.heap.size w w' := by
  have HA := Lib.hid (fun W ht => alive6_any G W ht)
  have hb0 := (Below.refl w.heap.size w).alloc (Nat.le_refl _) (.cells #[.int .i64 n, .slice a m c] 24)
  have HQ0 : Hid (QL w w.heap.size n (.slice a m c) es u l (w.alloc (.cells #[.int .i64 n, .slice a m c] 24))) := Lib.hid ⟨by simp, by simp, hE.on hb0, hb0, pow_on htab hb0, hS.on hb0⟩
  have HL := Lib.hid (fun W => light_any n a m c W)
  rw [hl] at HL
  have HL6 := Lib.hid (fun W (h : StrsAt W u l) => light6_any W h)
  rw [hl6] at HL6
  obtain ⟨l1, l2⟩ := light6_yes hl6
  have hz : ∀ x ∈ l, x.size ≤ maxLen := fun x hx => by have := l2 x hx; unfold maxLen; omega
  have hm3 : m ≤ 300 := by unfold lightB at hl; simp at hl; exact hl.2
  have HW := Lib.hid (fun W h ht => G.words n (.slice a m c) es W (by omega) h ht)
  have HPl := Lib.hid (fun W h ht => G.parse u l W (by omega) hz h ht)
  have hr : rightF n es = 0 := by
    unfold gwordsF at hg
    split at hg
    · assumption
    · cases hg
  have hv : gwordsV n es = wordsG n.toNat es := by unfold gwordsV; rw [if_pos hg]
  rw [hg, hv] at HW
  obtain ⟨r1, _, _, _⟩ := right_ends hr
  obtain ⟨N, hN⟩ : ∃ N : Nat, n = N := ⟨n.toNat, by omega⟩
  have hNn : n.toNat = N := by omega
  rw [hNn] at HW
  have hr' : rightF N es = 0 := by rw [← hN]; exact hr
  have HPa := Lib.hid (fun W v h ht => G.parse v (wordsG N es) W (by rw [wordsG_len]; omega) (fun x hx => wordsG_size hr' x hx) h ht)
  rw [parse_words hr', ← hN] at HPa
  have HPr := Lib.hid (fun W h ht => G.print n (.slice a m c) es W (by omega) h ht)
  have hpv : gprintV n es = textG N es := by unfold gprintV; rw [if_pos hr, hNn]
  have hpf : gprintF n es = 0 := by unfold gprintF; rw [if_pos hr]
  rw [hpv, hpf] at HPr
  have HRd := Lib.hid (fun W ht => G.read N es W hr' (by omega) ht)
  rw [← hN] at HRd
  have hme : decide (n = n ∧ es = es) = true := by simp
  have HM1 := Lib.hid (fun W v1 (h1 : EdgesAt W v1 es) (h2 : EdgesAt W (.slice a m c) es) => gsame_any n n (v1 := v1) (v2 := .slice a m c) (by omega) W h1 h2)
  have HM2 := Lib.hid (fun W v1 (h1 : EdgesAt W v1 es) (h2 : EdgesAt W (.slice a m c) es) => gsame_any n n (v1 := v1) (v2 := .slice a m c) (by omega) W h1 h2)
  rw [hme] at HM1 HM2
  generalize textG N es = TT at HPr HRd
  generalize wordsG N es = WW at HW HPa
  clear hv hpv hpf hr hr' hNn hN r1 hme
  obtain ⟨hp1, hp2⟩ := parse_fault0 hp
  rw [hp1, hp2] at HPl
  have hfp : ((parseG l).2.2.2 != 0) = true := by simpa using hp
  generalize (parseG l).2.2.2 = PF at HPl hfp
  generalize (parseG l).2.2.1 = PI at HPl
  clear hp1 hp2
  clear hp hg hl hl6 l1 l2 hz hm3 hb0 hE hS htab hm
  go_enter Tryd.func5, Tryd.ntmps5
  go_wp2_with (first
    | (go_at_call 6; refine (HL.out _).mono ?_; rintro e w1 ⟨rfl, hB⟩; have HQ1 := Lib.hid (HQ0.out.on hB); have c10 := HQ1.out.1; have c11 := HQ1.out.2.1; clear hB HL HQ0)
    | (go_at_call 13; refine (HL6.out _ HQ1.out.2.2.2.2.2).mono ?_; rintro e w' ⟨rfl, hw'⟩; obtain rfl := hw'.symm; clear HL6)
    | (go_at_call 8; refine (HW.out _ HQ1.out.2.2.1 HQ1.out.2.2.2.2.1).mono ?_; rintro e w2 ⟨v2, rfl, hS, hB⟩; have HQ2 := Lib.hid (HQ1.out.on hB); have HS2 := Lib.hid hS; clear hB HW HQ1 hS c10 c11)
    | (go_at_call 14; refine (HPa.out _ _ HS2.out HQ2.out.2.2.2.2.1).mono ?_; rintro e w3 ⟨v3, rfl, hE, hB⟩; obtain ⟨a3, c3, rfl, hE⟩ := edges_form hE; have ha := (Below.refl w3.heap.size w3).alloc (Nat.le_refl _) (.cells #[.int .i64 n, .slice a3 es.length c3] 24); have HQx := HQ2.out.on hB; have c30 := HQx.1; have c31 := HQx.2.1; have h3 : w.heap.size < w3.heap.size := World.block_lt_of_cell? w3 _ c30; have HQ3 := Lib.hid (HQx.on ha); have HE3 := Lib.hid (hE.on ha); clear hB hE ha HPa HQ2 HQx HS2)
    | (go_at_call 10; refine (HPr.out _ HQ3.out.2.2.1 HQ3.out.2.2.2.2.1).mono ?_; rintro e w4 ⟨rfl, hB⟩; have HQ4 := Lib.hid (HQ3.out.on hB); have d40 := cell_on hB (p := ⟨w3.heap.size, 0, none⟩) (v := .int .i64 n) (by simp); have d41 := cell_on hB (p := ⟨w3.heap.size, 1, none⟩) (v := .slice a3 es.length c3) (by simp); have HE4 := Lib.hid (HE3.out.on hB); clear hB HPr HQ3 HE3 c30 c31 h3)
    | (go_at_call 17; refine (HRd.out _ HQ4.out.2.2.2.2.1).mono ?_; rintro e w5 ⟨v5, rfl, hE, hB⟩; obtain ⟨a5, c5, rfl, hE⟩ := edges_form hE; have ha := (Below.refl w5.heap.size w5).alloc (Nat.le_refl _) (.cells #[.int .i64 n, .slice a5 es.length c5] 24); have HQx := HQ4.out.on hB; have c50 := HQx.1; have c51 := HQx.2.1; have d50 := cell_on hB d40; have d51 := cell_on hB d41; have h5 : w.heap.size < w5.heap.size := World.block_lt_of_cell? w5 _ c50; have h5b : w3.heap.size < w5.heap.size := World.block_lt_of_cell? w5 _ d50; have HQ5 := Lib.hid (HQx.on ha); have HE5 := Lib.hid (And.intro ((HE4.out.on hB).on ha) (hE.on ha)); clear hB hE ha HRd HQ4 HQx HE4 d40 d41)
    | (go_at_call 16; refine (HM1.out _ _ HE5.out.1 HQ5.out.2.2.1).mono ?_; rintro e w6 ⟨rfl, hB⟩; have HQ6 := Lib.hid (HQ5.out.on hB); have c60 := HQ6.out.1; have c61 := HQ6.out.2.1; have e60 := cell_on hB (p := ⟨w5.heap.size, 0, none⟩) (v := .int .i64 n) (by simp); have e61 := cell_on hB (p := ⟨w5.heap.size, 1, none⟩) (v := .slice a5 es.length c5) (by simp); have HE6 := Lib.hid (HE5.out.2.on hB); clear hB HM1 HQ5 HE5 c50 c51 d50 d51 h5 h5b)
    | (go_at_call 16; refine (HM2.out _ _ HE6.out HQ6.out.2.2.1).mono ?_; rintro e w7 ⟨rfl, hB⟩; have HQ7 := Lib.hid (HQ6.out.on hB); clear hB HM2 HQ6 HE6 c60 c61 e60 e61)
    | (go_at_call 14; refine (HPl.out _ HQ7.out.2.2.2.2.2 HQ7.out.2.2.2.2.1).mono ?_; rintro e w8 ⟨v8, rfl, hE, hB⟩; obtain ⟨a8, c8, rfl, hE⟩ := edges_form0 hE; have ha := (Below.refl w8.heap.size w8).alloc (Nat.le_refl _) (.cells #[.int .i64 0, .slice a8 0 c8] 24); have HQ8 := Lib.hid ((HQ7.out.on hB).on ha); have HE8 := Lib.hid (hE.on ha); clear hB hE ha HPl HQ7)
    | (go_at_call 7; refine (HA.out _ HQ8.out.2.2.2.2.1).mono ?_; rintro e w12 ⟨rfl, hB⟩; have HZ := Lib.hid (on_trans HQ8.out.2.2.2.1 hB); clear hB HA))
  go_ret
  exact ⟨by simp, HZ.out⟩
set_option maxHeartbeats 4000000 in
theorem gback_ny (G : GtSpec) (n : Int) (es : List Ed) (a : Option Addr) (m c : Nat) (hm : es.length = m) (u : Value) (l : List ByteArray) (hl : lightB n m = true) (hl6 : light6 l = true) (hg : gwordsF n es ≠ 0) (hp : (parseG l).2.2.2 = 0) (w : World) (hE : EdgesAt w (.slice a m c) es) (hS : StrsAt w u l) (htab : Pow10 w) :
    Calls Tryd.prog 5 #[.agg #[.int .i64 n, .slice a m c], u] w fun e w' => e = .returned (.bool true) ∧ Below w.heap.size w w' := by
  have HA := Lib.hid (fun W ht => alive6_any G W ht)
  have hb0 := (Below.refl w.heap.size w).alloc (Nat.le_refl _) (.cells #[.int .i64 n, .slice a m c] 24)
  have HQ0 : Hid (QL w w.heap.size n (.slice a m c) es u l (w.alloc (.cells #[.int .i64 n, .slice a m c] 24))) := Lib.hid ⟨by simp, by simp, hE.on hb0, hb0, pow_on htab hb0, hS.on hb0⟩
  have HL := Lib.hid (fun W => light_any n a m c W)
  rw [hl] at HL
  have HL6 := Lib.hid (fun W (h : StrsAt W u l) => light6_any W h)
  rw [hl6] at HL6
  obtain ⟨l1, l2⟩ := light6_yes hl6
  have hz : ∀ x ∈ l, x.size ≤ maxLen := fun x hx => by have := l2 x hx; unfold maxLen; omega
  have hm3 : m ≤ 300 := by unfold lightB at hl; simp at hl; exact hl.2
  have HW := Lib.hid (fun W h ht => G.words n (.slice a m c) es W (by omega) h ht)
  have HPl := Lib.hid (fun W h ht => G.parse u l W (by omega) hz h ht)
  have hfb : (gwordsF n es == 0) = false := by simpa using hg
  generalize gwordsF n es = FF at HW hfb
  generalize gwordsV n es = WW at HW
  obtain ⟨PM, hPM, hPr, hPw⟩ := words_parse hp
  rw [hp] at HPl
  obtain ⟨PN, hPN⟩ : ∃ x, (parseG l).1 = x := ⟨_, rfl⟩
  obtain ⟨PE, hPE⟩ : ∃ x, (parseG l).2.1 = x := ⟨_, rfl⟩
  obtain ⟨PI, hPI⟩ : ∃ x, (parseG l).2.2.1 = x := ⟨_, rfl⟩
  rw [hPN, hPE, hPI] at HPl
  rw [hPE] at hPr hPw
  have hPnm : PN = (PM : Int) := by rw [← hPN]; exact hPM
  have hwl := wordsG_len PM PE
  rw [hPw] at hwl
  have hgx : gwordsF PN PE = 0 := by
    unfold gwordsF
    rw [hPnm, if_pos hPr, if_neg (by omega)]
  have hvx : gwordsV PN PE = l := by
    unfold gwordsV
    rw [if_pos hgx, hPnm, Int.toNat_natCast]
    exact hPw
  have HWx := Lib.hid (fun W (v : Value) (h : EdgesAt W v PE) ht => G.words PN v PE W (by omega) h ht)
  rw [hgx, hvx] at HWx
  have HWx := Lib.hid (fun W {v : Value} (h : EdgesAt W v PE) ht => HWx.out W v h ht)
  have hml : decide (l = l) = true := by simp
  have HMl := Lib.hid (fun W v1 (h1 : StrsAt W v1 l) (h2 : StrsAt W u l) => same_any (v1 := v1) (v2 := u) (by omega) W h1 h2)
  rw [hml] at HMl
  have HRx := Lib.hid (fun W {v : Value} (h : EdgesAt W v PE) => gright_any PN W h)
  rw [hPnm, hPr, ← hPnm] at HRx
  clear hPM hPr hPw hPN hPE hPI hPnm hwl hgx hvx hml
  clear hp hg hl hl6 l1 l2 hz hm3 hb0 hE hS htab hm
  go_enter Tryd.func5, Tryd.ntmps5
  go_wp2_with (first
    | (go_at_call 6; refine (HL.out _).mono ?_; rintro e w1 ⟨rfl, hB⟩; have HQ1 := Lib.hid (HQ0.out.on hB); have c10 := HQ1.out.1; have c11 := HQ1.out.2.1; clear hB HL HQ0)
    | (go_at_call 13; refine (HL6.out _ HQ1.out.2.2.2.2.2).mono ?_; rintro e w' ⟨rfl, hw'⟩; obtain rfl := hw'.symm; clear HL6)
    | (go_at_call 8; refine (HW.out _ HQ1.out.2.2.1 HQ1.out.2.2.2.2.1).mono ?_; rintro e w2 ⟨v2, rfl, hS, hB⟩; have HQ2 := Lib.hid (HQ1.out.on hB); have HS2 := Lib.hid hS; clear hB HW HQ1 hS c10 c11)
    | (go_at_call 14; refine (HPl.out _ HQ2.out.2.2.2.2.2 HQ2.out.2.2.2.2.1).mono ?_; rintro e w8 ⟨v8, rfl, hE, hB⟩; obtain ⟨a8, c8, rfl, hE⟩ := edges_form hE; have ha := (Below.refl w8.heap.size w8).alloc (Nat.le_refl _) (.cells #[.int .i64 PN, .slice a8 PE.length c8] 24); have HQ8 := Lib.hid ((HQ2.out.on hB).on ha); have HE8 := Lib.hid (hE.on ha); clear hB hE ha HPl HQ2)
    | (go_at_call 8; refine (HWx.out _ HE8.out HQ8.out.2.2.2.2.1).mono ?_; rintro e w9 ⟨v9, rfl, hS, hB⟩; have HQ9 := Lib.hid (HQ8.out.on hB); have HE9 := Lib.hid (HE8.out.on hB); have x90 := cell_on hB (p := ⟨w8.heap.size, 0, none⟩) (v := .int .i64 PN) (by simp); have x91 := cell_on hB (p := ⟨w8.heap.size, 1, none⟩) (v := .slice a8 PE.length c8) (by simp); have HS9 := Lib.hid hS; clear hB HWx HQ8 HE8 hS)
    | (go_at_call 12; refine (HMl.out _ _ HS9.out HQ9.out.2.2.2.2.2).mono ?_; rintro e w10 ⟨rfl, hB⟩; have HQ10 := Lib.hid (HQ9.out.on hB); have HE10 := Lib.hid (HE9.out.on hB); have x100 := cell_on hB x90; have x101 := cell_on hB x91; clear hB HMl HQ9 HE9 HS9 x90 x91)
    | (go_at_call 18; refine (HRx.out _ HE10.out).mono ?_; rintro e w11 ⟨rfl, hB⟩; have HQ11 := Lib.hid (HQ10.out.on hB); clear hB HRx HQ10 HE10 x100 x101)
    | (go_at_call 7; refine (HA.out _ HQ11.out.2.2.2.2.1).mono ?_; rintro e w12 ⟨rfl, hB⟩; have HZ := Lib.hid (on_trans HQ11.out.2.2.2.1 hB); clear hB HA))
  go_ret
  exact ⟨by simp, HZ.out⟩
set_option maxHeartbeats 4000000 in
theorem gback_nn (G : GtSpec) (n : Int) (es : List Ed) (a : Option Addr) (m c : Nat) (hm : es.length = m) (u : Value) (l : List ByteArray) (hl : lightB n m = true) (hl6 : light6 l = true) (hg : gwordsF n es ≠ 0) (hp : (parseG l).2.2.2 ≠ 0) (w : World) (hE : EdgesAt w (.slice a m c) es) (hS : StrsAt w u l) (htab : Pow10 w) :
    Calls Tryd.prog 5 #[.agg #[.int .i64 n, .slice a m c], u] w fun e w' => e = .returned (.bool true) ∧ Below w.heap.size w w' := by
  have HA := Lib.hid (fun W ht => alive6_any G W ht)
  have hb0 := (Below.refl w.heap.size w).alloc (Nat.le_refl _) (.cells #[.int .i64 n, .slice a m c] 24)
  have HQ0 : Hid (QL w w.heap.size n (.slice a m c) es u l (w.alloc (.cells #[.int .i64 n, .slice a m c] 24))) := Lib.hid ⟨by simp, by simp, hE.on hb0, hb0, pow_on htab hb0, hS.on hb0⟩
  have HL := Lib.hid (fun W => light_any n a m c W)
  rw [hl] at HL
  have HL6 := Lib.hid (fun W (h : StrsAt W u l) => light6_any W h)
  rw [hl6] at HL6
  obtain ⟨l1, l2⟩ := light6_yes hl6
  have hz : ∀ x ∈ l, x.size ≤ maxLen := fun x hx => by have := l2 x hx; unfold maxLen; omega
  have hm3 : m ≤ 300 := by unfold lightB at hl; simp at hl; exact hl.2
  have HW := Lib.hid (fun W h ht => G.words n (.slice a m c) es W (by omega) h ht)
  have HPl := Lib.hid (fun W h ht => G.parse u l W (by omega) hz h ht)
  have hfb : (gwordsF n es == 0) = false := by simpa using hg
  generalize gwordsF n es = FF at HW hfb
  generalize gwordsV n es = WW at HW
  obtain ⟨hp1, hp2⟩ := parse_fault0 hp
  rw [hp1, hp2] at HPl
  have hfp : ((parseG l).2.2.2 != 0) = true := by simpa using hp
  generalize (parseG l).2.2.2 = PF at HPl hfp
  generalize (parseG l).2.2.1 = PI at HPl
  clear hp1 hp2
  clear hp hg hl hl6 l1 l2 hz hm3 hb0 hE hS htab hm
  go_enter Tryd.func5, Tryd.ntmps5
  go_wp2_with (first
    | (go_at_call 6; refine (HL.out _).mono ?_; rintro e w1 ⟨rfl, hB⟩; have HQ1 := Lib.hid (HQ0.out.on hB); have c10 := HQ1.out.1; have c11 := HQ1.out.2.1; clear hB HL HQ0)
    | (go_at_call 13; refine (HL6.out _ HQ1.out.2.2.2.2.2).mono ?_; rintro e w' ⟨rfl, hw'⟩; obtain rfl := hw'.symm; clear HL6)
    | (go_at_call 8; refine (HW.out _ HQ1.out.2.2.1 HQ1.out.2.2.2.2.1).mono ?_; rintro e w2 ⟨v2, rfl, hS, hB⟩; have HQ2 := Lib.hid (HQ1.out.on hB); have HS2 := Lib.hid hS; clear hB HW HQ1 hS c10 c11)
    | (go_at_call 14; refine (HPl.out _ HQ2.out.2.2.2.2.2 HQ2.out.2.2.2.2.1).mono ?_; rintro e w8 ⟨v8, rfl, hE, hB⟩; obtain ⟨a8, c8, rfl, hE⟩ := edges_form0 hE; have ha := (Below.refl w8.heap.size w8).alloc (Nat.le_refl _) (.cells #[.int .i64 0, .slice a8 0 c8] 24); have HQ8 := Lib.hid ((HQ2.out.on hB).on ha); have HE8 := Lib.hid (hE.on ha); clear hB hE ha HPl HQ2)
    | (go_at_call 7; refine (HA.out _ HQ8.out.2.2.2.2.1).mono ?_; rintro e w12 ⟨rfl, hB⟩; have HZ := Lib.hid (on_trans HQ8.out.2.2.2.1 hB); clear hB HA))
  go_ret
  exact ⟨by simp, HZ.out⟩
theorem gbacklaw_any (G : GtSpec) (n : Int) {v u : Value} {es : List Ed} {l : List ByteArray} (w : World) (hE : EdgesAt w v es) (hS : StrsAt w u l) (htab : Pow10 w) :
    Calls Tryd.prog 5 #[.agg #[.int .i64 n, v], u] w fun e w' => e = .returned (.bool true) ∧ Below w.heap.size w w' := by
  have hE' := hE
  obtain ⟨a, c, rfl, _⟩ := hE
  cases hl : lightB n es.length
  · exact gback_out G n es a _ c rfl u l (.inl hl) w hE' hS htab
  · cases hl6 : light6 l
    · exact gback_out G n es a _ c rfl u l (.inr hl6) w hE' hS htab
    · by_cases hg : gwordsF n es = 0
      · by_cases hp : (parseG l).2.2.2 = 0
        · exact gback_yy G n es a _ c rfl u l hl hl6 hg hp w hE' hS htab
        · exact gback_yn G n es a _ c rfl u l hl hl6 hg hp w hE' hS htab
      · by_cases hp : (parseG l).2.2.2 = 0
        · exact gback_ny G n es a _ c rfl u l hl hl6 hg hp w hE' hS htab
        · exact gback_nn G n es a _ c rfl u l hl hl6 hg hp w hE' hS htab
end Go.Proofs.YtlecidgfchaonaaDoor

namespace Go.Proofs.YtlecidgfchaonaaDoor
open Go.RowKit Go.Sort Go.Lib
theorem app_data (a b : ByteArray) : (a ++ b).data.toList = a.data.toList ++ b.data.toList := by simp [ByteArray.data_append]
theorem wb_clean {c : UInt8} (h : wb c = true) : c ≠ 10 ∧ c ≠ 13 := by
  simp [wb] at h
  refine ⟨fun e => ?_, fun e => ?_⟩
  · subst e; simp at h
  · subst e; simp at h
/-- Lines, each with its line feed, are found again, and nothing is left. -/
theorem lines_all : ∀ ls : List ByteArray, (∀ x ∈ ls, ∀ c ∈ x.data.toList, c ≠ 10 ∧ c ≠ 13) → linesOf ⟨(allOf ls).toArray⟩ = (ls, ⟨#[]⟩)
  | [], _ => lines_miss (fun j hj => absurd hj (by show ¬ j < 0; omega))
  | x :: r, h => by
    have ih := lines_all r (fun y hy => h y (by simp [hy]))
    have hd : (ByteArray.mk (allOf (x :: r)).toArray).data.toList = x.data.toList ++ 10 :: allOf r := by simp [allOf]
    obtain ⟨t, ht⟩ : ∃ t, ByteArray.mk (allOf (x :: r)).toArray = t := ⟨_, rfl⟩
    rw [ht] at hd ⊢
    have hx := Lib.size_eq x
    have htz := Lib.size_eq t
    have hsz : t.data.toList.length = x.data.toList.length + (1 + (allOf r).length) := by rw [hd, List.length_append, List.length_cons]; omega
    have hi : x.size < t.size := by omega
    have hget : ∀ j (hj : j < t.size), t.data.toList[j]? = some t[j] := fun j hj => List.getElem?_eq_getElem (by omega)
    have he : t[x.size] = 10 := by
      have h1 := hget x.size hi
      rw [hd, List.getElem?_append_right (by omega), show x.size - x.data.toList.length = 0 by omega] at h1
      exact (Option.some.inj h1).symm
    have hn : NoLf t x.size := fun j hj hlt => by
      have h1 := hget j hj
      rw [hd, List.getElem?_append_left (by omega), List.getElem?_eq_getElem (by omega)] at h1
      rw [← Option.some.inj h1]
      exact (h x (by simp) _ (List.getElem_mem _)).1
    have e1 : t.extract 0 x.size = x := by
      have : (t.extract 0 x.size).data.toList = x.data.toList := by
        rw [Lib.extract_data, hd, List.drop_zero, Nat.sub_zero, hx, List.take_left]
      rw [← Lib.mk_data (t.extract 0 x.size), this, Lib.mk_data]
    have e2 : t.extract (x.size + 1) t.size = ⟨(allOf r).toArray⟩ := by
      have : (t.extract (x.size + 1) t.size).data.toList = allOf r := by
        rw [Lib.extract_data, hd, hx, List.drop_append, show x.data.toList.length + 1 - x.data.toList.length = 1 by omega, List.drop_of_length_le (by omega), List.nil_append, List.drop_succ_cons, List.drop_zero]
        exact List.take_of_length_le (by omega)
      rw [← Lib.mk_data (t.extract (x.size + 1) t.size), this]
    rw [lines_hit hi hn he, e1, e2, ih, bare_no (fun c hc => (h x (by simp) c hc).2)]
/-- A graph's lines, without their ends. -/
def headW (N m : Nat) : List ByteArray := [⟨#[103, 114, 97, 112, 104]⟩, dg N, dg m]
def lineW (e : Ed) : List ByteArray := ⟨#[101]⟩ :: edW e
def linesG (N : Nat) (es : List Ed) : List ByteArray := joinB (headW N es.length) :: es.map fun e => joinB (lineW e)
theorem join3 (a b c : ByteArray) : (joinB [a, b, c]).data.toList = a.data.toList ++ 32 :: (b.data.toList ++ 32 :: c.data.toList) := by
  simp [joinB, Lib.join, List.intercalate, List.intersperse]
theorem join4 (a b c d : ByteArray) : (joinB [a, b, c, d]).data.toList = a.data.toList ++ 32 :: (b.data.toList ++ 32 :: (c.data.toList ++ 32 :: d.data.toList)) := by
  simp [joinB, Lib.join, List.intercalate, List.intersperse]
theorem head_data (N m : Nat) : (headB N m).data.toList = (joinB (headW N m)).data.toList ++ [10] := by
  unfold headW headB
  rw [join3]
  simp only [app_data]
  simp
theorem addE_data (t : ByteArray) (e : Ed) : (addE t e).data.toList = t.data.toList ++ ((joinB (lineW e)).data.toList ++ [10]) := by
  unfold lineW edW addE
  rw [join4]
  simp only [app_data]
  simp
theorem text_data (N : Nat) (es : List Ed) : (textG N es).data.toList = allOf (linesG N es) := by
  have key : ∀ (l : List Ed) (t : ByteArray), (l.foldl addE t).data.toList = t.data.toList ++ allOf (l.map fun e => joinB (lineW e)) := by
    intro l
    induction l with
    | nil => intro t; simp [allOf]
    | cons e l ih =>
      intro t
      rw [List.foldl_cons, ih, addE_data]
      simp [allOf]
  unfold textG linesG
  rw [key, head_data]
  simp [allOf]
theorem dg_word (n : Nat) : rightB (dg n) = true := by
  unfold rightB
  rw [Bool.and_eq_true]
  constructor
  · rw [List.all_eq_true]
    intro c hc
    have h1 := List.all_eq_true.1 (all_dd n) c (by simpa [dg] using hc)
    have h2 := (isD_iff c).1 h1
    simp [wb]
    omega
  · have h1 := dd_ne n
    have h2 : (dg n).size = (decDigits n).length := by rw [Lib.size_eq]; simp [dg]
    rw [h2]
    exact decide_eq_true (List.length_pos_iff.2 h1)
theorem head_words (N m : Nat) : ∀ x ∈ headW N m, rightB x = true := by
  intro x hx
  simp only [headW, List.mem_cons, List.not_mem_nil, or_false] at hx
  rcases hx with rfl | rfl | rfl
  · decide
  · exact dg_word _
  · exact dg_word _
theorem line_words (e : Ed) : ∀ x ∈ lineW e, rightB x = true := by
  intro x hx
  simp only [lineW, edW, List.mem_cons, List.not_mem_nil, or_false] at hx
  rcases hx with rfl | rfl | rfl | rfl
  · decide
  · exact dg_word _
  · exact dg_word _
  · exact dg_word _
/-- Words that are joined hold neither a line feed nor a carriage return. -/
theorem join_clean {l : List ByteArray} (h : ∀ x ∈ l, rightB x = true) : ∀ c ∈ (joinB l).data.toList, c ≠ 10 ∧ c ≠ 13 := by
  have key : ∀ r : List ByteArray, (∀ x ∈ r, rightB x = true) → ∀ c ∈ Lib.joinTail [32] (r.map (·.data.toList)), c ≠ 10 ∧ c ≠ 13 := by
    intro r hr c hc
    unfold Lib.joinTail at hc
    rw [List.mem_flatten] at hc
    obtain ⟨y, hy, hc⟩ := hc
    rw [List.mem_map] at hy
    obtain ⟨z, hz, rfl⟩ := hy
    rw [List.mem_map] at hz
    obtain ⟨x, hx, rfl⟩ := hz
    rw [List.mem_append, List.mem_singleton] at hc
    rcases hc with rfl | hc
    · decide
    · exact wb_clean (List.all_eq_true.1 (right_ne (hr x hx)).2 c hc)
  intro c hc
  cases l with
  | nil => simp [joinB, Lib.join, List.intercalate] at hc
  | cons x r =>
    have e : (joinB (x :: r)).data.toList = x.data.toList ++ Lib.joinTail [32] (r.map (·.data.toList)) := by
      unfold joinB
      rw [List.map_cons, Lib.join_cons]
    rw [e, List.mem_append] at hc
    rcases hc with hc | hc
    · exact wb_clean (List.all_eq_true.1 (right_ne (h x (by simp))).2 c hc)
    · exact key r (fun y hy => h y (by simp [hy])) c hc
/-- The lines of a graph's text, and nothing left. -/
theorem text_lines (N : Nat) (es : List Ed) : linesOf (textG N es) = (linesG N es, ⟨#[]⟩) := by
  have h : textG N es = ⟨(allOf (linesG N es)).toArray⟩ := by rw [← text_data, Lib.mk_data]
  rw [h]
  refine lines_all _ fun x hx => ?_
  simp only [linesG, List.mem_cons, List.mem_map] at hx
  rcases hx with rfl | ⟨e, _, rfl⟩
  · exact join_clean (head_words N _)
  · exact join_clean (line_words e)
theorem join3_size (a b c : ByteArray) : (joinB [a, b, c]).size = a.size + b.size + c.size + 2 := by
  have := congrArg List.length (join3 a b c)
  simp only [List.length_append, List.length_cons, ← Lib.size_eq] at this
  omega
theorem join4_size (a b c d : ByteArray) : (joinB [a, b, c, d]).size = a.size + b.size + c.size + d.size + 3 := by
  have := congrArg List.length (join4 a b c d)
  simp only [List.length_append, List.length_cons, ← Lib.size_eq] at this
  omega
/-- The words of each line. -/
theorem head_read (N m : Nat) (hN : N < 18446744073709551616) (hm : m < 18446744073709551616) : wordsV (joinB (headW N m)) = headW N m ∧ wordsF (joinB (headW N m)) = 0 := by
  refine words_some ?_ (words_join _ (head_words N m)) (by simp [headW])
  have h1 := dg_size N hN
  have h2 := dg_size m hm
  unfold headW
  rw [join3_size]
  have : (⟨#[103, 114, 97, 112, 104]⟩ : ByteArray).size = 5 := rfl
  omega
theorem line_read (e : Ed) (hf : e.f.toNat < 18446744073709551616) (ht : e.t.toNat < 18446744073709551616) (hw : e.w < 18446744073709551616) : wordsV (joinB (lineW e)) = lineW e ∧ wordsF (joinB (lineW e)) = 0 := by
  refine words_some ?_ (words_join _ (line_words e)) (by simp [lineW, edW])
  have h1 := dg_size _ hf
  have h2 := dg_size _ ht
  have h3 := dg_size _ hw
  unfold lineW edW
  rw [join4_size]
  have : (⟨#[101]⟩ : ByteArray).size = 1 := rfl
  omega
end Go.Proofs.YtlecidgfchaonaaDoor
