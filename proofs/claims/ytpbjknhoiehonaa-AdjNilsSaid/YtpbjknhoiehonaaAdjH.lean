import Derived.Test.YtpbjknhoiehonaaAdjG
set_option linter.unusedVariables false
set_option linter.unusedSimpArgs false
namespace Go.Proofs.Ytpbjknhoiehonaa
open Go.RowKit Go.Shelf
attribute [local go_sem ↓] Go.wp_at_zero Go.wp_at_succ
theorem rowL_lt {back : Bool} {v : Int} {es : List Ed} {i : Nat} (h : i ∈ rowL back v es) : i < es.length := by
  obtain ⟨e, he, _⟩ := rowL_at h
  exact (List.getElem?_eq_some_iff.1 he).1
theorem rowL_len (back : Bool) (v : Int) (es : List Ed) : (rowL back v es).length ≤ es.length := rowK_le _ _ _ _
/-- Each at an Adj that lies: the closure, and what it will read. -/
theorem aeach_at {W : World} {B : Nat} {p : Addr} {n : Int} {es : List Ed} (h : AHeld W B p n es) (v : Int) (h0 : 0 ≤ v) (h1 : v < n) (back : Bool) :
    Calls Try.prog 26 #[.pointer (some p), .int .i64 v, .bool back] W fun e w' => ∃ (R x off cr c : Nat) (a : Option Addr), e = .returned (.func (.func 37) #[] #[.pointer (some ⟨R, 0, none⟩), .pointer (some ⟨R + 1, 0, none⟩)]) ∧
      w'.cell? ⟨R, 0, none⟩ = some (.slice (some ⟨x, off, none⟩) (rowL back v es).length cr) ∧ ESt (R + 1) x off (rowL back v es) (.slice a es.length c) es w' ∧ W.heap.size ≤ R ∧ x < B ∧ Below W.heap.size W w' := by
  obtain ⟨P, N, E, O, I, rfl, rfl, hP, hl, c0, c1, c2, c3, hE, hO, hI⟩ := h
  obtain ⟨V, rfl⟩ : ∃ V : Nat, v = V := ⟨v.toNat, by omega⟩
  have hV : V < N := by omega
  obtain ⟨a, c, rfl, hc, hg⟩ := hE
  obtain ⟨O', co, rfl, hO1, hO2⟩ := hO
  obtain ⟨I', ci, rfl, hI1, hI2⟩ := hI
  obtain ⟨s1, c4, x1, o1, k1, rfl, hx1, hr1⟩ := hO2 V hV
  obtain ⟨s2, c5, x2, o2, k2, rfl, hx2, hr2⟩ := hI2 V hV
  have HR := row_at P N V hV back a es.length c O' I' x1 o1 _ k1 x2 o2 _ k2 co ci W c0 c1 c2 c3 c4 c5
  have hEA : EdgesAt W (.slice a es.length c) es := ⟨a, c, rfl, hc, fun h0 => by obtain ⟨b, off, e1, _, e3⟩ := hg h0; exact ⟨b, off, e1, e3⟩⟩
  cases back
  · refine (each_at _ _ _ _ N a _ es.length c _ _ rfl W (Lib.hid HR) (Lib.hid fun W1 hb => kept_at P N a es.length c W1 (cell_on hb c0) (cell_on hb c1))).mono ?_
    rintro e w' ⟨R, rfl, g0, g1, g2, hB⟩
    exact ⟨R, x1, o1, k1, c, a, rfl, g0, ⟨g1, fun j i hj => cell_on hB (hr1 j i hj), hEA.on hB⟩, g2, hx1, hB⟩
  · refine (each_at _ _ _ _ N a _ es.length c _ _ rfl W (Lib.hid HR) (Lib.hid fun W1 hb => kept_at P N a es.length c W1 (cell_on hb c0) (cell_on hb c1))).mono ?_
    rintro e w' ⟨R, rfl, g0, g1, g2, hB⟩
    exact ⟨R, x2, o2, k2, c, a, rfl, g0, ⟨g1, fun j i hj => cell_on hB (hr2 j i hj), hEA.on hB⟩, g2, hx2, hB⟩
set_option maxHeartbeats 1000000 in
theorem aout_at {W : World} {B : Nat} {p : Addr} {n : Int} {es : List Ed} (h : AHeld W B p n es) (v : Int) (h0 : 0 ≤ v) (h1 : v < n) :
    Calls Try.prog 9 #[.pointer (some p), .int .i64 v] W fun e w' => ∃ u, e = .returned u ∧ w'.ownsRow W.heap.size 3 1 u (rowL false v es).length (natV (rowL false v es)) ∧ Below W.heap.size W w' := by
  have HE := Lib.hid (aeach_at h v h0 h1 false)
  have hl : es.length ≤ 16384 := by obtain ⟨_, _, _, _, _, _, _, _, hl, _⟩ := h; exact hl
  have hq := rowL_len false v es
  have HN := Lib.hid (fun (R x off cr c : Nat) (a : Option Addr) (W1 : World) h1 h2 => numbers_at R (R + 1) x off cr c es.length a (rowL false v es) es rfl hl (by omega) (fun i hi => rowL_lt hi) W1 h1 h2)
  generalize rowL false v es = row at HE HN ⊢
  clear h hq
  obtain ⟨P, po, ps⟩ := p
  go_enter Try.func9, Try.ntmps9
  go_wp2_with (first
    | (go_at_call 26; refine HE.out.mono ?_; rintro e w1 ⟨R, x, off, cr, c, a, rfl, g0, g1, g2, g3, hB⟩; have HB := Lib.hid hB; have HG := Lib.hid (HN.out R x off cr c a _ g0 g1); clear HE HN g0 g1 g2 g3 hB)
    | (go_at_call 25; refine HG.out.mono ?_; rintro e w2 ⟨u, rfl, hu, hB2⟩; have HU := Lib.hid hu; have HB2 := Lib.hid (on_trans HB.out hB2); have HS := Lib.hid HB.out.size; clear HB hB2 hu))
  go_ret
  exact ⟨_, rfl, owns_base HS.out HU.out, HB2.out⟩
set_option maxHeartbeats 1000000 in
theorem ain_at {W : World} {B : Nat} {p : Addr} {n : Int} {es : List Ed} (h : AHeld W B p n es) (v : Int) (h0 : 0 ≤ v) (h1 : v < n) :
    Calls Try.prog 10 #[.pointer (some p), .int .i64 v] W fun e w' => ∃ u, e = .returned u ∧ w'.ownsRow W.heap.size 3 1 u (rowL true v es).length (natV (rowL true v es)) ∧ Below W.heap.size W w' := by
  have HE := Lib.hid (aeach_at h v h0 h1 true)
  have hl : es.length ≤ 16384 := by obtain ⟨_, _, _, _, _, _, _, _, hl, _⟩ := h; exact hl
  have hq := rowL_len true v es
  have HN := Lib.hid (fun (R x off cr c : Nat) (a : Option Addr) (W1 : World) h1 h2 => numbers_at R (R + 1) x off cr c es.length a (rowL true v es) es rfl hl (by omega) (fun i hi => rowL_lt hi) W1 h1 h2)
  generalize rowL true v es = row at HE HN ⊢
  clear h hq
  obtain ⟨P, po, ps⟩ := p
  go_enter Try.func10, Try.ntmps10
  go_wp2_with (first
    | (go_at_call 26; refine HE.out.mono ?_; rintro e w1 ⟨R, x, off, cr, c, a, rfl, g0, g1, g2, g3, hB⟩; have HB := Lib.hid hB; have HG := Lib.hid (HN.out R x off cr c a _ g0 g1); clear HE HN g0 g1 g2 g3 hB)
    | (go_at_call 25; refine HG.out.mono ?_; rintro e w2 ⟨u, rfl, hu, hB2⟩; have HU := Lib.hid hu; have HB2 := Lib.hid (on_trans HB.out hB2); have HS := Lib.hid HB.out.size; clear HB hB2 hu))
  go_ret
  exact ⟨_, rfl, owns_base HS.out HU.out, HB2.out⟩
set_option maxHeartbeats 1000000 in
theorem aedges_at {W : World} {B : Nat} {p : Addr} {n : Int} {es : List Ed} (h : AHeld W B p n es) :
    Calls Try.prog 16 #[.pointer (some p)] W fun e w' => e = .returned (.int .i64 (es.length : Int)) ∧ Below W.heap.size W w' := by
  obtain ⟨P, N, E, O, I, rfl, rfl, hP, hl, c0, c1, c2, c3, ⟨a, c, rfl, hc, hg⟩, hO, hI⟩ := h
  have hfld : ∀ W, (Instr.field 24 (.agg #[.int .i64 (N : Int), .slice a es.length c]) 1).run Try.prog W = .ok (.slice a es.length c) W := fun W => by rfl
  have HK := Lib.hid (kept_at P N a es.length c W c0 c1)
  generalize es.length = m at *
  clear hO hI hg c0 c1 c2 c3
  go_enter Try.func16, Try.ntmps16
  go_wp2_with (go_at_call 27; refine HK.out.mono ?_; rintro e w1 ⟨rfl, hB⟩; have HB := Lib.hid hB; clear hB HK)
  go_ret
  exact ⟨rfl, HB.out⟩
end Go.Proofs.Ytpbjknhoiehonaa
