import Derived.Test.YtlecidgfchaonaaDoorMI
set_option linter.unusedVariables false
set_option linter.unusedSimpArgs false
namespace Go.Proofs.YtlecidgfchaonaaDoor
open Go.RowKit
attribute [local go_sem ↓] Go.wp_at_zero Go.wp_at_succ
theorem g_below {W w1 : World} (h : Below W.heap.size W w1) (row : Option Nat) : W.grownBy w1 row := ⟨h.os, h.tape, h.output, h.size, fun k hk _ => h.block k hk⟩
theorem owns_on {w w1 : World} {base : Nat} {e : TypeId} {sz n : Nat} {v : Value} {xs : List Value} (h : w.ownsRow base e sz v n xs) (hb : Below w.heap.size w w1) : w1.ownsRow base e sz v n xs :=
  h.kept (g_below hb none) (by rcases h.2 with ⟨rfl, _⟩ | ⟨g, cap, cur, rfl, _⟩ <;> simp [Value.ownBlock])
/-- The k-th word: its number, and which fault it has. -/
def wordF (N : Nat) (es : List Ed) (k : Nat) (x : ByteArray) : Int := if parseF x.data.toList ≠ 0 then 3 else numF N es k (parseV x.data.toList)
theorem nil_or_snoc (es : List Ed) : es = [] ∨ ∃ l e, es = l ++ [e] := by
  by_cases h : es = []
  · exact .inl h
  · exact .inr ⟨es.dropLast, es.getLast h, (List.dropLast_concat_getLast h).symm⟩
theorem lastF_snoc (l : List Ed) (e : Ed) : lastF (l ++ [e]) = e.f := by simp [lastF]
set_option maxHeartbeats 1000000 in
theorem rnum_syn (N : Nat) (a : Option Addr) (m c k : Nat) (x : ByteArray) (hx : x.size ≤ maxLen) (hf : parseF x.data.toList ≠ 0) (w : World) :
    Calls Tryd.prog 34 #[.agg #[.int .i64 (N : Int), .slice a m c], .int .i64 (k : Int), .string x] w fun e w' => e = .returned (.tuple #[.agg #[.int .i64 (N : Int), .slice a m c], .int .u64 0, .int .i64 3]) ∧ Below w.heap.size w w' := by
  have HP := Lib.hid (rparse_any x hx)
  have HB := Lib.hid (((Below.refl w.heap.size w).alloc (Nat.le_refl _) (.cells #[.int .i64 (N : Int), .slice a m c] 24)).alloc (by simp) (.cells #[.int .i64 (N : Int), .slice a m c] 24))
  have hb : (parseF x.data.toList != 0) = true := by simpa using hf
  generalize parseF x.data.toList = F at *
  generalize parseV x.data.toList = V at *
  clear hf
  go_enter Tryd.func34, Tryd.ntmps34
  go_wp2_with (go_at_call 50; refine (HP.out _).mono ?_; rintro e w' ⟨rfl, hw'⟩; obtain rfl := hw'.symm)
  exact bodyPost_ret_by (resGTT rfl _ rfl (res2 _ _ _ _ _).1 (res2 _ _ _ _ _).2.1) rfl ⟨rfl, HB.out⟩
set_option maxHeartbeats 2000000 in
theorem rnum_no (N : Nat) (hN : N ≤ 4096) (es : List Ed) (a : Option Addr) (c k : Nat) (hk : k ≤ 1000000) (hm : es.length ≤ 20000) (hfr : 2 ≤ k → (k - 2) % 3 = 1 → 0 ≤ lastF es ∧ lastF es ≤ 4096) (x : ByteArray) (hx : x.size ≤ maxLen) (hp : parseF x.data.toList = 0) (hf : numF N es k (parseV x.data.toList) ≠ 0) (w : World)
    (hC : 0 < es.length → ∃ b off, a = some ⟨b, off, none⟩ ∧ ∀ (j : Nat) e, es[j]? = some e → w.cell? ⟨b, off + j * 3, none⟩ = some (.int .i64 e.f)) :
    Calls Tryd.prog 34 #[.agg #[.int .i64 (N : Int), .slice a es.length c], .int .i64 (k : Int), .string x] w fun e w' => e = .returned (.tuple #[.agg #[.int .i64 (N : Int), .slice a es.length c], .int .u64 0, .int .i64 (numF N es k (parseV x.data.toList))]) ∧ Below w.heap.size w w' := by
  have HP := Lib.hid (rparse_any x hx)
  rw [hp] at HP
  have hV := (parse_ok hp).1
  have hb0 := ((Below.refl w.heap.size w).alloc (Nat.le_refl _) (.cells #[.int .i64 (N : Int), .slice a es.length c] 24)).alloc (by simp) (.cells #[.int .i64 0, .slice none 0 0] 24)
  have HB := Lib.hid hb0
  have HR := Lib.hid (fun W => rR6_any N hN es (.slice a es.length c) k (parseV x.data.toList) hk hV (lastF es) rfl hfr W)
  have hne : (numF N es k (parseV x.data.toList) != 0) = true := by simpa using hf
  generalize numF N es k (parseV x.data.toList) = F at *
  generalize parseV x.data.toList = V at *
  clear hf hfr hp hV
  rcases nil_or_snoc es with rfl | ⟨l, ⟨f, t, y⟩, rfl⟩
  · have hl : lastF [] = -1 := rfl
    rw [hl] at HR
    clear hC hl hb0
    simp only [List.length_nil] at HB HR ⊢
    go_enter Tryd.func34, Tryd.ntmps34
    go_wp2_with (first
      | (go_at_call 50; refine (HP.out _).mono ?_; rintro e w' ⟨rfl, hw'⟩; obtain rfl := hw'.symm; clear HP)
      | (go_at_call 51; refine (HR.out _).mono ?_; rintro e w1 ⟨rfl, hB⟩; have c0 := cell_on hB (res1 w (.cells #[.int .i64 0, .slice none 0 0] 24) (.int .i64 (N : Int)) (.slice a 0 c) 24).1; have c1 := cell_on hB (res1 w (.cells #[.int .i64 0, .slice none 0 0] 24) (.int .i64 (N : Int)) (.slice a 0 c) 24).2.1; have z := res2 w (.cells #[.int .i64 (N : Int), .slice a 0 c] 24) (.int .i64 0) (.slice none 0 0) 24; have r0 := cell_on hB z.1; have r1 := cell_on hB z.2.1; have r2 := frozen_on hB z.1 z.2.2.1; have r3 := frozen_on hB z.2.1 z.2.2.2; have HB1 := Lib.hid (on_trans HB.out hB); clear hB z HR))
    have h2 := set2_cells r0 r1 (.int .i64 (N : Int)) (.slice a 0 c)
    exact bodyPost_ret_by (resGTT rfl _ rfl h2.1 h2.2) rfl ⟨rfl, (HB1.out.setCell (by simp) _).setCell (by simp) _⟩
  · obtain ⟨b, off, rfl, hc⟩ := hC (by simp)
    have s0 := hc l.length ⟨f, t, y⟩ (by simp)
    simp only at s0
    have hlb : b < w.heap.size := World.block_lt_of_cell? w _ s0
    rw [lastF_snoc] at HR
    simp only [List.length_append, List.length_singleton] at HB HR hm ⊢
    obtain ⟨m, hml⟩ : ∃ m, l.length = m := ⟨_, rfl⟩
    rw [hml] at HB HR hm s0 ⊢
    clear hC hc hb0 hml
    go_enter Tryd.func34, Tryd.ntmps34
    go_wp2_with (first
      | (go_at_call 50; refine (HP.out _).mono ?_; rintro e w' ⟨rfl, hw'⟩; obtain rfl := hw'.symm; clear HP)
      | (go_at_call 51; refine (HR.out _).mono ?_; rintro e w1 ⟨rfl, hB⟩; have c0 := cell_on hB (res1 w (.cells #[.int .i64 0, .slice none 0 0] 24) (.int .i64 (N : Int)) (.slice (some ⟨b, off, none⟩) (m + 1) c) 24).1; have c1 := cell_on hB (res1 w (.cells #[.int .i64 0, .slice none 0 0] 24) (.int .i64 (N : Int)) (.slice (some ⟨b, off, none⟩) (m + 1) c) 24).2.1; have z := res2 w (.cells #[.int .i64 (N : Int), .slice (some ⟨b, off, none⟩) (m + 1) c] 24) (.int .i64 0) (.slice none 0 0) 24; have r0 := cell_on hB z.1; have r1 := cell_on hB z.2.1; have r2 := frozen_on hB z.1 z.2.2.1; have r3 := frozen_on hB z.2.1 z.2.2.2; have HB1 := Lib.hid (on_trans HB.out hB); clear hB z HR))
    have h2 := set2_cells r0 r1 (.int .i64 (N : Int)) (.slice (some ⟨b, off, none⟩) (m + 1) c)
    exact bodyPost_ret_by (resGTT rfl _ rfl h2.1 h2.2) rfl ⟨rfl, (HB1.out.setCell (by simp) _).setCell (by simp) _⟩
theorem numF_le {N : Nat} {es : List Ed} {k n : Nat} (hN : N ≤ 4096) (h : numF N es k n = 0) : n ≤ 4294967296 := by
  unfold numF at h
  repeat' split at h
  all_goals first | omega | (exfalso; revert h; decide) | skip
theorem num_took {w w1 w2 : World} {base n : Nat} {v v' : Value} {xs : List Value} {es' : List Ed} (hown : w.ownsRow base 43 3 v n xs) (hG : w.grownBy w1 v.ownBlock) (hZ : w.heap.size + 2 ≤ w1.heap.size) (hT : Took w1 w2 base v v' es') (x y : Value) :
    Took w ((w2.setCell ⟨w.heap.size + 1, 0, none⟩ x).setCell ⟨w.heap.size + 1, 1, none⟩ y) base v v' es' := by
  have hne : some (w.heap.size + 1) ≠ v'.ownBlock := fun e => (hT.2.2 _ e.symm).elim (fun h => own_ne hown 1 h.symm) (fun h => by omega)
  refine ⟨owns_far (owns_far hT.1 _ hne) _ hne, g_set (g_set (g_then hG hT.2.1 (fun j h => .inl h)) _ (.inl (by simp))) _ (.inl (by simp)), fun j h => (hT.2.2 j h).imp id (fun h => by have := hG.size; omega)⟩
/-- What Number leaves where the word may be: the row in the result's variable, and what has turned. -/
theorem rnum_good (N : Nat) (hN : N ≤ 4096) (es : List Ed) (v : Value) (base k : Nat) (hk : k ≤ 1000000) (hm : es.length ≤ 20000) (hne : 2 ≤ k → (k - 2) % 3 ≠ 0 → es ≠ []) (hfr : 2 ≤ k → (k - 2) % 3 = 1 → 0 ≤ lastF es ∧ lastF es ≤ 4096) (x : ByteArray) (hx : x.size ≤ maxLen) (hp : parseF x.data.toList = 0) (hf : numF N es k (parseV x.data.toList) = 0) (w : World)
    (hb : base ≤ w.heap.size) (hown : w.ownsRow base 43 3 v es.length (flat es)) :
    Calls Tryd.prog 34 #[.agg #[.int .i64 (N : Int), v], .int .i64 (k : Int), .string x] w fun e w' => ∃ v', e = .returned (.tuple #[.agg #[.int .i64 (takeN N k (parseV x.data.toList) : Nat), v'], .int .u64 (parseV x.data.toList : Nat), .int .i64 0]) ∧ Took w w' base v v' (takeE es k (parseV x.data.toList)) := by
  have HP := Lib.hid (rparse_any x hx)
  rw [hp] at HP
  have hV := (parse_ok hp).1
  have hle := numF_le hN hf
  have HR := Lib.hid (fun W => rR6_any N hN es v k (parseV x.data.toList) hk hV (lastF es) rfl hfr W)
  rw [hf] at HR
  have HT := Lib.hid (fun W (hb : base ≤ W.heap.size) hown => rtake_any N es k (parseV x.data.toList) base v hk hle hm hne W hb hown)
  have HO := Lib.hid hown
  have HL := Lib.hid hb
  obtain ⟨a, c, rfl⟩ := slice_form hown
  generalize parseV x.data.toList = V at *
  obtain ⟨NN, hNN⟩ : ∃ NN, takeN N k V = NN := ⟨_, rfl⟩
  obtain ⟨EE, hEE⟩ : ∃ EE, takeE es k V = EE := ⟨_, rfl⟩
  rw [hNN, hEE] at HT
  rw [hNN, hEE]
  clear hNN hEE hf hfr hp hne hb
  rcases nil_or_snoc es with rfl | ⟨l, ⟨f, t, y⟩, rfl⟩
  · have hl : lastF [] = -1 := rfl
    rw [hl] at HR
    clear hl hown
    simp only [List.length_nil] at HO HR HT ⊢
    go_enter Tryd.func34, Tryd.ntmps34
    go_wp2_with (first
      | (go_at_call 50; refine (HP.out _).mono ?_; rintro e w' ⟨rfl, hw'⟩; obtain rfl := hw'.symm; clear HP)
      | (go_at_call 51; refine (HR.out _).mono ?_; rintro e w1 ⟨rfl, hB⟩; have c0 := cell_on hB (res1 w (.cells #[.int .i64 0, .slice none 0 0] 24) (.int .i64 (N : Int)) (.slice a 0 c) 24).1; have c1 := cell_on hB (res1 w (.cells #[.int .i64 0, .slice none 0 0] 24) (.int .i64 (N : Int)) (.slice a 0 c) 24).2.1; have z := res2 w (.cells #[.int .i64 (N : Int), .slice a 0 c] 24) (.int .i64 0) (.slice none 0 0) 24; have r0 := cell_on hB z.1; have r1 := cell_on hB z.2.1; have r2 := frozen_on hB z.1 z.2.2.1; have r3 := frozen_on hB z.2.1 z.2.2.2; have HZ1 : Hid (w.heap.size + 2 ≤ w1.heap.size) := Lib.hid (by have := hB.size; simpa using this); have HO1 := Lib.hid (owns_on ((HO.out.alloc _).alloc _) hB); have HG1 := Lib.hid (g_then (g_alloc (g_alloc (World.grownBy.refl w (Value.ownBlock (.slice a 0 c))) (.cells #[.int .i64 (N : Int), .slice a 0 c] 24)) (.cells #[.int .i64 0, .slice none 0 0] 24)) (g_below hB none) (fun j h => by cases h)); clear hB z HR)
      | (go_at_call 52; refine (HT.out _ (by have := HZ1.out; have := HL.out; omega) HO1.out).mono ?_; rintro e w2 ⟨v', rfl, hT⟩; obtain ⟨a', c', rfl⟩ := slice_form hT.1; have HT2 := Lib.hid hT; have n1 := own_ne HO.out 1; have q0 := far_cell hT.2.1 n1 r0; have q1 := far_cell hT.2.1 n1 r1; have q2 := far_frozen hT.2.1 n1 r0 r2; have q3 := far_frozen hT.2.1 n1 r1 r3; clear hT HT n1 c0 c1))
    have h2 := set2_cells q0 q1 (.int .i64 (NN : Int)) (.slice a' EE.length c')
    exact bodyPost_ret_by (resGTT rfl _ rfl h2.1 h2.2) rfl ⟨_, rfl, num_took HO.out HG1.out HZ1.out HT2.out _ _⟩
  · obtain ⟨gg, cap, heq, _, _⟩ := hown.form (by simp)
    have s0 := hown
    rw [heq] at s0
    have s0 : w.cell? ⟨gg, l.length * 3, none⟩ = some (.int .i64 f) := (s0.cellAt (l.length * 3) (by simp <;> omega)).trans ((flat_at _ l.length ⟨f, t, y⟩ 0 (by simp) (by omega)).trans rfl)
    have hlb : gg < w.heap.size := World.block_lt_of_cell? w _ s0
    rw [lastF_snoc] at HR
    rw [heq] at HO HR HT ⊢
    simp only [List.length_append, List.length_singleton] at HO HR HT hm ⊢
    obtain ⟨m, hml⟩ : ∃ m, l.length = m := ⟨_, rfl⟩
    rw [hml] at HO HR HT hm s0 ⊢
    clear hml hown heq
    go_enter Tryd.func34, Tryd.ntmps34
    go_wp2_with (first
      | (go_at_call 50; refine (HP.out _).mono ?_; rintro e w' ⟨rfl, hw'⟩; obtain rfl := hw'.symm; clear HP)
      | (go_at_call 51; refine (HR.out _).mono ?_; rintro e w1 ⟨rfl, hB⟩; have c0 := cell_on hB (res1 w (.cells #[.int .i64 0, .slice none 0 0] 24) (.int .i64 (N : Int)) (.slice (some ⟨gg, 0, none⟩) (m + 1) cap) 24).1; have c1 := cell_on hB (res1 w (.cells #[.int .i64 0, .slice none 0 0] 24) (.int .i64 (N : Int)) (.slice (some ⟨gg, 0, none⟩) (m + 1) cap) 24).2.1; have z := res2 w (.cells #[.int .i64 (N : Int), .slice (some ⟨gg, 0, none⟩) (m + 1) cap] 24) (.int .i64 0) (.slice none 0 0) 24; have r0 := cell_on hB z.1; have r1 := cell_on hB z.2.1; have r2 := frozen_on hB z.1 z.2.2.1; have r3 := frozen_on hB z.2.1 z.2.2.2; have HZ1 : Hid (w.heap.size + 2 ≤ w1.heap.size) := Lib.hid (by have := hB.size; simpa using this); have HO1 := Lib.hid (owns_on ((HO.out.alloc _).alloc _) hB); have HG1 := Lib.hid (g_then (g_alloc (g_alloc (World.grownBy.refl w (Value.ownBlock (.slice (some ⟨gg, 0, none⟩) (m + 1) cap))) (.cells #[.int .i64 (N : Int), .slice (some ⟨gg, 0, none⟩) (m + 1) cap] 24)) (.cells #[.int .i64 0, .slice none 0 0] 24)) (g_below hB none) (fun j h => by cases h)); clear hB z HR)
      | (go_at_call 52; refine (HT.out _ (by have := HZ1.out; have := HL.out; omega) HO1.out).mono ?_; rintro e w2 ⟨v', rfl, hT⟩; obtain ⟨a', c', rfl⟩ := slice_form hT.1; have HT2 := Lib.hid hT; have n1 := own_ne HO.out 1; have q0 := far_cell hT.2.1 n1 r0; have q1 := far_cell hT.2.1 n1 r1; have q2 := far_frozen hT.2.1 n1 r0 r2; have q3 := far_frozen hT.2.1 n1 r1 r3; clear hT HT n1 c0 c1))
    have h2 := set2_cells q0 q1 (.int .i64 (NN : Int)) (.slice a' EE.length c')
    exact bodyPost_ret_by (resGTT rfl _ rfl h2.1 h2.2) rfl ⟨_, rfl, num_took HO.out HG1.out HZ1.out HT2.out _ _⟩
end Go.Proofs.YtlecidgfchaonaaDoor

namespace Go.Proofs.YtlecidgfchaonaaDoor
open Go.RowKit
attribute [local go_sem ↓] Go.wp_at_zero Go.wp_at_succ
def numN (N : Nat) (es : List Ed) (k : Nat) (x : ByteArray) : Nat := if wordF N es k x = 0 then takeN N k (parseV x.data.toList) else N
def numV (N : Nat) (es : List Ed) (k : Nat) (x : ByteArray) : Nat := if wordF N es k x = 0 then parseV x.data.toList else 0
def numE (N : Nat) (es : List Ed) (k : Nat) (x : ByteArray) : List Ed := if wordF N es k x = 0 then takeE es k (parseV x.data.toList) else es
theorem took_same {w w' : World} {base : Nat} {v : Value} {es : List Ed} (hown : w.ownsRow base 43 3 v es.length (flat es)) (hB : Below w.heap.size w w') : Took w w' base v v es := ⟨owns_on hown hB, g_below hB _, fun j h => .inl h⟩
/-- Number, whatever the word. -/
theorem rnum_any (N : Nat) (hN : N ≤ 4096) (es : List Ed) (v : Value) (base k : Nat) (hk : k ≤ 1000000) (hm : es.length ≤ 20000) (hne : 2 ≤ k → (k - 2) % 3 ≠ 0 → es ≠ []) (hfr : 2 ≤ k → (k - 2) % 3 = 1 → 0 ≤ lastF es ∧ lastF es ≤ 4096) (x : ByteArray) (hx : x.size ≤ maxLen) (w : World)
    (hb : base ≤ w.heap.size) (hown : w.ownsRow base 43 3 v es.length (flat es)) :
    Calls Tryd.prog 34 #[.agg #[.int .i64 (N : Int), v], .int .i64 (k : Int), .string x] w fun e w' => ∃ a' c', e = .returned (.tuple #[.agg #[.int .i64 (numN N es k x : Nat), .slice a' (numE N es k x).length c'], .int .u64 (numV N es k x : Nat), .int .i64 (wordF N es k x)]) ∧ Took w w' base v (.slice a' (numE N es k x).length c') (numE N es k x) := by
  unfold numN numV numE
  by_cases hp : parseF x.data.toList = 0
  · have hw : wordF N es k x = numF N es k (parseV x.data.toList) := by unfold wordF; rw [if_neg (fun h => h hp)]
    by_cases hf : numF N es k (parseV x.data.toList) = 0
    · rw [hw, hf, if_pos rfl, if_pos rfl, if_pos rfl]
      refine (rnum_good N hN es v base k hk hm hne hfr x hx hp hf w hb hown).mono ?_
      rintro e w' ⟨v', rfl, hT⟩
      obtain ⟨a', c', rfl⟩ := slice_form hT.1
      exact ⟨a', c', rfl, hT⟩
    · rw [hw, if_neg hf, if_neg hf, if_neg hf]
      obtain ⟨a, c, rfl⟩ := slice_form hown
      refine (rnum_no N hN es a c k hk hm hfr x hx hp hf w (fun h => ?_)).mono ?_
      · obtain ⟨gg, cap, heq, _, _⟩ := hown.form h
        injection heq with e1 _ e2
        subst e1 e2
        exact ⟨gg, 0, rfl, fun j e he => (by
          have hj := (List.getElem?_eq_some_iff.1 he).1
          rw [Nat.zero_add, hown.cellAt (j * 3) (by omega)]
          exact (flat_at es j e 0 he (by omega)).trans rfl)⟩
      · rintro e w' ⟨rfl, hB⟩
        exact ⟨a, c, rfl, took_same hown hB⟩
  · have hw : wordF N es k x = 3 := by unfold wordF; rw [if_pos hp]
    rw [hw, if_neg (by decide), if_neg (by decide), if_neg (by decide)]
    obtain ⟨a, c, rfl⟩ := slice_form hown
    refine (rnum_syn N a es.length c k x hx hp w).mono ?_
    rintro e w' ⟨rfl, hB⟩
    exact ⟨a, c, rfl, took_same hown hB⟩
/-- What a graph is so far, behind k words. -/
def Inv6 (N : Nat) (es : List Ed) (k nd : Nat) : Prop := N ≤ 4096 ∧ es.length = k / 3 ∧ nd ≤ 49154 ∧ k ≤ nd ∧ (2 ≤ k → (k - 2) % 3 = 1 → 0 ≤ lastF es ∧ lastF es ≤ 4096)
theorem inv6_zero : Inv6 0 [] 0 2 := ⟨by omega, rfl, by omega, by omega, fun h => by omega⟩
theorem takeE_len (es : List Ed) (k n : Nat) (h : es.length = k / 3) : (takeE es k n).length = (k + 1) / 3 := by
  unfold takeE
  split
  · omega
  · split
    · rw [List.length_append, List.length_singleton]; omega
    · split
      · rw [List.length_modify]; omega
      · rw [List.length_modify]; omega
theorem inv6_step {N : Nat} {es : List Ed} {k nd n : Nat} (h : Inv6 N es k nd) (hk : k < nd) (hf : numF N es k n = 0) : Inv6 (takeN N k n) (takeE es k n) (k + 1) (if k = 1 then 2 + 3 * n else nd) := by
  obtain ⟨h1, h2, h3, h4, h5⟩ := h
  refine ⟨?_, takeE_len es k n h2, ?_, ?_, fun hk2 hr => ?_⟩
  · unfold takeN
    split
    · unfold numF at hf
      rw [if_pos (by assumption)] at hf
      split at hf
      · cases hf
      · omega
    · exact h1
  · split
    · subst k
      unfold numF at hf
      rw [if_neg (by omega), if_pos rfl] at hf
      split at hf
      · cases hf
      · omega
    · exact h3
  · split
    · omega
    · omega
  · have h0 : (k - 2) % 3 = 0 ∧ 2 ≤ k := by omega
    unfold numF at hf
    rw [if_neg (by omega), if_neg (by omega), if_neg (by omega)] at hf
    split at hf
    · cases hf
    · rename_i hx
      have : lastF (takeE es k n) = n := by unfold takeE; rw [if_neg (by omega), if_pos h0.1, lastF_snoc]
      rw [this]
      omega
theorem run_end {l : List ByteArray} {k nd N : Nat} {es : List Ed} (h : parseG l = runP l (l.length + 2 - k) k nd N es) (hk : nd ≤ k) (hl : k ≤ l.length) : parseG l = if nd < l.length then (0, [], (nd : Int), 3) else ((N : Int), es, 0, 0) := by
  rw [h, show l.length + 2 - k = (l.length + 1 - k) + 1 by omega]
  unfold runP
  rw [if_pos hk]
theorem run_few {l : List ByteArray} {k nd N : Nat} {es : List Ed} (h : parseG l = runP l (l.length + 2 - k) k nd N es) (hk : k < nd) (hl : k = l.length) : parseG l = (0, [], (l.length : Int), 3) := by
  rw [h, show l.length + 2 - k = (l.length + 1 - k) + 1 by omega]
  unfold runP
  rw [if_neg (by omega), List.getElem?_eq_none (by omega)]
theorem run_bad {l : List ByteArray} {k nd N : Nat} {es : List Ed} {x : ByteArray} (h : parseG l = runP l (l.length + 2 - k) k nd N es) (hk : k < nd) (hx : l[k]? = some x) (hf : wordF N es k x ≠ 0) : parseG l = (0, [], (k : Int), wordF N es k x) := by
  have hl := (List.getElem?_eq_some_iff.1 hx).1
  rw [h, show l.length + 2 - k = (l.length + 1 - k) + 1 by omega]
  unfold runP
  rw [if_neg (by omega), hx]
  unfold wordF at hf ⊢
  by_cases hp : parseF x.data.toList ≠ 0
  · simp [hp]
  · rw [if_neg hp] at hf ⊢
    simp [hp, hf]
theorem run_good {l : List ByteArray} {k nd N : Nat} {es : List Ed} {x : ByteArray} (h : parseG l = runP l (l.length + 2 - k) k nd N es) (hk : k < nd) (hx : l[k]? = some x) (hf : wordF N es k x = 0) : parseG l = runP l (l.length + 2 - (k + 1)) (k + 1) (if k = 1 then 2 + 3 * parseV x.data.toList else nd) (takeN N k (parseV x.data.toList)) (takeE es k (parseV x.data.toList)) := by
  have hl := (List.getElem?_eq_some_iff.1 hx).1
  rw [h, show l.length + 2 - k = (l.length + 2 - (k + 1)) + 1 by omega]
  conv => lhs; unfold runP
  rw [if_neg (by omega), hx]
  unfold wordF at hf
  by_cases hp : parseF x.data.toList ≠ 0
  · rw [if_pos hp] at hf; cases hf
  · rw [if_neg hp] at hf
    simp [hp, hf]
theorem word_ok {N : Nat} {es : List Ed} {k : Nat} {x : ByteArray} (h : wordF N es k x = 0) : parseF x.data.toList = 0 ∧ numF N es k (parseV x.data.toList) = 0 := by
  unfold wordF at h
  by_cases hp : parseF x.data.toList ≠ 0
  · rw [if_pos hp] at h; cases h
  · rw [if_neg hp] at h
    exact ⟨by simpa using hp, h⟩
end Go.Proofs.YtlecidgfchaonaaDoor

namespace Go.Proofs.YtlecidgfchaonaaDoor
open Go.RowKit
attribute [local go_sem ↓] Go.wp_at_zero Go.wp_at_succ
/-- What Parse's region loads: the graph so far, and the word. -/
def PS (G : Nat) (N : Int) (v : Value) (lb lo : Nat) (x : ByteArray) (w : World) : Prop := w.cell? ⟨G, 0, none⟩ = some (.int .i64 N) ∧ w.cell? ⟨G, 1, none⟩ = some v ∧ w.cell? ⟨lb, lo, none⟩ = some (.string x)
theorem PS.on {G : Nat} {N : Int} {v : Value} {lb lo : Nat} {x : ByteArray} {W w1 : World} (hb : Below W.heap.size W w1) (h : PS G N v lb lo x W) : PS G N v lb lo x w1 := ⟨cell_on hb h.1, cell_on hb h.2.1, cell_on hb h.2.2⟩
theorem PS.far {G : Nat} {N : Int} {v : Value} {lb lo : Nat} {x : ByteArray} {W w1 : World} {row : Option Nat} (hg : W.grownBy w1 row) (h1 : some G ≠ row) (h2 : some lb ≠ row) (h : PS G N v lb lo x W) : PS G N v lb lo x w1 := ⟨far_cell hg h1 h.1, far_cell hg h1 h.2.1, far_cell hg h2 h.2.2⟩
theorem PS.set2 {G : Nat} {N : Int} {v : Value} {lb lo : Nat} {x : ByteArray} {W : World} {Q i j : Nat} {u y : Value} (h1 : G ≠ Q) (h2 : lb ≠ Q) (h : PS G N v lb lo x W) : PS G N v lb lo x ((W.setCell ⟨Q, i, none⟩ u).setCell ⟨Q, j, none⟩ y) := by
  refine ⟨?_, ?_, ?_⟩
  · rw [World.cell?_setCell_other _ _ _ _ (fun e => h1 (congrArg Addr.block e).symm), World.cell?_setCell_other _ _ _ _ (fun e => h1 (congrArg Addr.block e).symm)]; exact h.1
  · rw [World.cell?_setCell_other _ _ _ _ (fun e => h1 (congrArg Addr.block e).symm), World.cell?_setCell_other _ _ _ _ (fun e => h1 (congrArg Addr.block e).symm)]; exact h.2.1
  · rw [World.cell?_setCell_other _ _ _ _ (fun e => h2 (congrArg Addr.block e).symm), World.cell?_setCell_other _ _ _ _ (fun e => h2 (congrArg Addr.block e).symm)]; exact h.2.2
theorem PS.again {G : Nat} {N : Int} {v : Value} {lb lo : Nat} {x : ByteArray} {W : World} {o o' : Obj} (hB : G < W.heap.size) (hb : lb < W.heap.size) (h : PS G N v lb lo x (W.alloc o)) : PS G N v lb lo x (W.alloc o') :=
  ⟨by rw [World.cell?_alloc_lt _ _ _ hB]; have := h.1; rwa [World.cell?_alloc_lt _ _ _ hB] at this, by rw [World.cell?_alloc_lt _ _ _ hB]; have := h.2.1; rwa [World.cell?_alloc_lt _ _ _ hB] at this, by rw [World.cell?_alloc_lt _ _ _ hb]; have := h.2.2; rwa [World.cell?_alloc_lt _ _ _ hb] at this⟩
/-- Behind Parse's region: the new variable's cells, the graph's, and the row. -/
def PF (W0 W4 : World) (Q B G : Nat) (u0 u1 x v' : Value) (es' : List Ed) : Prop :=
  W4.cell? ⟨Q, 0, none⟩ = some x ∧ W4.cell? ⟨Q, 1, none⟩ = some v' ∧ W4.cell? ⟨G, 0, none⟩ = some u0 ∧ W4.cell? ⟨G, 1, none⟩ = some u1 ∧ W4.frozen? ⟨G, 0, none⟩ = false ∧ W4.frozen? ⟨G, 1, none⟩ = false ∧ W4.ownsRow B 43 3 v' es'.length (flat es') ∧ Below B W0 W4 ∧ B ≤ Q ∧ B ≤ W4.heap.size
theorem took_below {W0 W w1 : World} {B n : Nat} {v v' : Value} {xs : List Value} {es' : List Ed} (hB : Below B W0 W) (hW : B ≤ W.heap.size) (hO : W.ownsRow B 43 3 v n xs) (hT : Took W w1 B v v' es') : Below B W0 w1 :=
  hB.grown hT.2.1 hW (fun j hj => (hO.lt j hj).1)
theorem own_low {w : World} {base : Nat} {e : TypeId} {sz n : Nat} {v : Value} {xs : List Value} (h : w.ownsRow base e sz v n xs) {G : Nat} (hG : G < base) : some G ≠ v.ownBlock := fun x => by
  have := (h.lt _ x.symm).1
  omega
theorem pfin1 {W0 W w1 : World} {B G n : Nat} {u0 u1 v : Value} {xs : List Value} {es' : List Ed} {x v' : Value} {T : TypeId} (hB : Below B W0 W) (hW : B ≤ W.heap.size) (hG : G < B) (hO : W.ownsRow B 43 3 v n xs) (g0 : W.cell? ⟨G, 0, none⟩ = some u0) (g1 : W.cell? ⟨G, 1, none⟩ = some u1) (f0 : W.frozen? ⟨G, 0, none⟩ = false) (f1 : W.frozen? ⟨G, 1, none⟩ = false) (hT : Took W w1 B v v' es') :
    PF W0 (w1.alloc (.cells #[x, v'] T)) w1.heap.size B G u0 u1 x v' es' := by
  have hn := own_low hO hG
  have hs := hT.2.1.size
  have ha := (Below.refl _ w1).alloc (Nat.le_refl _) (.cells #[x, v'] T)
  have c0 := far_cell hT.2.1 hn g0
  have c1 := far_cell hT.2.1 hn g1
  exact ⟨by simp, by simp, cell_on ha c0, cell_on ha c1, frozen_on ha c0 (far_frozen hT.2.1 hn g0 f0), frozen_on ha c1 (far_frozen hT.2.1 hn g1 f1), hT.1.alloc _, (took_below hB hW hO hT).alloc (by omega) _, by omega, by simp; omega⟩
theorem pfin2 {W0 W w1 : World} {B G n Q : Nat} (hQ : W.heap.size = Q) {u0 u1 v : Value} {xs : List Value} {es' : List Ed} {x v' y z : Value} {T : TypeId} (hB : Below B W0 W) (hW : B ≤ W.heap.size) (hG : G < B) (hO : W.ownsRow B 43 3 v n xs) (g0 : W.cell? ⟨G, 0, none⟩ = some u0) (g1 : W.cell? ⟨G, 1, none⟩ = some u1) (f0 : W.frozen? ⟨G, 0, none⟩ = false) (f1 : W.frozen? ⟨G, 1, none⟩ = false) (hT : Took (W.alloc (.cells #[y, z] T)) w1 B v v' es') :
    (w1.cell? ⟨Q, 0, none⟩ = some y ∧ w1.cell? ⟨Q, 1, none⟩ = some z ∧ w1.frozen? ⟨Q, 0, none⟩ = false ∧ w1.frozen? ⟨Q, 1, none⟩ = false) ∧ PF W0 ((w1.setCell ⟨Q, 0, none⟩ x).setCell ⟨Q, 1, none⟩ v') Q B G u0 u1 x v' es' := by
  subst hQ
  have hO' := hO.alloc (.cells #[y, z] T)
  have hn := own_low hO' hG
  have hq := own_ne hO 0
  rw [Nat.add_zero] at hq
  have hs := hT.2.1.size
  simp at hs
  have ha := (Below.refl _ W).alloc (Nat.le_refl _) (.cells #[y, z] T)
  have c0 := far_cell hT.2.1 hn (cell_on ha g0)
  have c1 := far_cell hT.2.1 hn (cell_on ha g1)
  have d0 := far_frozen hT.2.1 hn (cell_on ha g0) (frozen_on ha g0 f0)
  have d1 := far_frozen hT.2.1 hn (cell_on ha g1) (frozen_on ha g1 f1)
  have q0 := far_cell hT.2.1 (q := ⟨W.heap.size, 0, none⟩) (u := y) hq (by simp)
  have q1 := far_cell hT.2.1 (q := ⟨W.heap.size, 1, none⟩) (u := z) hq (by simp)
  have q2 := far_frozen hT.2.1 (q := ⟨W.heap.size, 0, none⟩) (u := y) hq (by simp) (by simp)
  have q3 := far_frozen hT.2.1 (q := ⟨W.heap.size, 1, none⟩) (u := z) hq (by simp) (by simp)
  have hne : some W.heap.size ≠ v'.ownBlock := fun e => (hT.2.2 _ e.symm).elim (fun h => hq h.symm) (fun h => by simp at h; omega)
  have h2 := set2_cells q0 q1 x v'
  have hGQ : G ≠ W.heap.size := by omega
  refine ⟨⟨q0, q1, q2, q3⟩, h2.1, h2.2, ?_, ?_, ?_, ?_, owns_far (owns_far hT.1 _ hne) _ hne, ((took_below (hB.alloc hW _) (by simp; omega) hO' hT).setCell hW _).setCell hW _, hW, by simp; omega⟩
  · rw [World.cell?_setCell_other _ _ _ _ (fun e => hGQ (congrArg Addr.block e).symm), World.cell?_setCell_other _ _ _ _ (fun e => hGQ (congrArg Addr.block e).symm)]; exact c0
  · rw [World.cell?_setCell_other _ _ _ _ (fun e => hGQ (congrArg Addr.block e).symm), World.cell?_setCell_other _ _ _ _ (fun e => hGQ (congrArg Addr.block e).symm)]; exact c1
  · rw [World.frozen?_setCell, World.frozen?_setCell]; exact d0
  · rw [World.frozen?_setCell, World.frozen?_setCell]; exact d1
end Go.Proofs.YtlecidgfchaonaaDoor
