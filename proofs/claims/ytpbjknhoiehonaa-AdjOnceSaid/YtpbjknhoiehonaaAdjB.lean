import Derived.Test.YtpbjknhoiehonaaAdjA
import Derived.Test.YtpbjknhoiehonaaLig
set_option linter.unusedVariables false
set_option linter.unusedSimpArgs false
namespace Go.Proofs.Ytpbjknhoiehonaa
open Go.RowKit
attribute [local go_sem ↓] Go.wp_at_zero Go.wp_at_succ
/-- WHAT THE PACKAGE ADJ ANSWERS: the premises under which AdjOnce is walked. Held: an Adj of this graph lies at p, all of it below B. -/
structure AdjSpec (Held : World → Nat → Addr → Int → List Ed → Prop) : Prop where
  on : ∀ {W w1 : World} {B : Nat} {p : Addr} {n : Int} {es : List Ed}, Below B W w1 → Held W B p n es → Held w1 B p n es
  new : ∀ (n : Int) (v : Value) (es : List Ed) (W : World), EdgesAt W v es → rightF n es = 0 → Calls Try.prog 8 #[.agg #[.int .i64 n, v]] W fun e w' => ∃ p, e = .returned (.tuple #[.pointer (some p), .int .i64 0]) ∧ Held w' w'.heap.size p n es ∧ Below W.heap.size W w'
  out : ∀ (B : Nat) (p : Addr) (n : Int) (es : List Ed) (v : Int) (W : World), B ≤ W.heap.size → Held W B p n es → 0 ≤ v → v < n → Calls Try.prog 9 #[.pointer (some p), .int .i64 v] W fun e w' => ∃ u, e = .returned u ∧ w'.ownsRow W.heap.size 3 1 u (rowL false v es).length (natV (rowL false v es)) ∧ Below W.heap.size W w'
  inn : ∀ (B : Nat) (p : Addr) (n : Int) (es : List Ed) (v : Int) (W : World), B ≤ W.heap.size → Held W B p n es → 0 ≤ v → v < n → Calls Try.prog 10 #[.pointer (some p), .int .i64 v] W fun e w' => ∃ u, e = .returned u ∧ w'.ownsRow W.heap.size 3 1 u (rowL true v es).length (natV (rowL true v es)) ∧ Below W.heap.size W w'
  edges : ∀ (B : Nat) (p : Addr) (n : Int) (es : List Ed) (W : World), Held W B p n es → Calls Try.prog 16 #[.pointer (some p)] W fun e w' => e = .returned (.int .i64 (es.length : Int)) ∧ Below W.heap.size W w'
variable {Held : World → Nat → Addr → Int → List Ed → Prop}
/-- An Adj that lies in the world, and what is known of the world. -/
def HA (Held : World → Nat → Addr → Int → List Ed → Prop) (w0 : World) (B : Nat) (p : Addr) (n : Int) (es : List Ed) (w : World) : Prop := Hid (Held w B p n es) ∧ Hid (B ≤ w.heap.size) ∧ Hid (Below w0.heap.size w0 w)
theorem HA.on (S : AdjSpec Held) {w0 W w1 : World} {B : Nat} {p : Addr} {n : Int} {es : List Ed} (hb : Below W.heap.size W w1) (h : HA Held w0 B p n es W) : HA Held w0 B p n es w1 :=
  ⟨Lib.hid (S.on (hb.mono h.2.1.out) h.1.out), Lib.hid (Nat.le_trans h.2.1.out hb.size), Lib.hid (on_trans h.2.2.out hb)⟩
theorem two_ints (w : World) (T : TypeId) : IntsAt (w.alloc (.cells #[.int .i64 0, .int .i64 1] T)) (.slice (some ⟨w.heap.size, 0, none⟩) 2 2) (natI [0, 1]) :=
  ⟨_, 2, rfl, Nat.le_refl _, fun _ => ⟨w.heap.size, 0, rfl, fun j x hx => by
    match j, hx with
    | 0, hx => obtain rfl : (0 : Int) = x := by simpa [natI] using hx
               simp
    | 1, hx => obtain rfl : (1 : Int) = x := by simpa [natI] using hx
               simp
    | j + 2, hx => simp [natI] at hx⟩⟩
set_option maxHeartbeats 1000000 in
theorem aalive_any (S : AdjSpec Held) (w : World) :
    Calls Try.prog 7 #[] w fun e w' => e = .returned (.bool true) ∧ Below w.heap.size w w' := by
  obtain ⟨es, hes⟩ : ∃ es : List Ed, [⟨0, 1, 1⟩, ⟨0, 1, 2⟩] = es := ⟨_, rfl⟩
  have HN := Lib.hid (fun W v h => S.new 2 v es W h (by subst hes; decide))
  have HO := Lib.hid (fun B p W hB h => S.out B p 2 es 0 W hB h (by decide) (by decide))
  have HE := Lib.hid (fun B p W h => S.edges B p 2 es W h)
  rw [show rowL false 0 es = [0, 1] by subst hes; decide] at HO
  rw [show es.length = 2 by subst hes; rfl] at HE
  have HI := Lib.hid (fun W v1 v2 (h1 : IntsAt W v1 (natI [0, 1])) (h2 : IntsAt W v2 (natI [0, 1])) => isame_any (by decide) W h1 h2)
  rw [decide_eq_true rfl] at HI
  have HE0 : Hid (EdgesAt (w.alloc (.cells #[.int .i64 0, .int .i64 1, .int .u64 1, .int .i64 0, .int .i64 1, .int .u64 2] 36)) (.slice (some ⟨w.heap.size, 0, none⟩) 2 2) es) := Lib.hid (by
    subst hes
    exact ⟨_, 2, rfl, Nat.le_refl _, fun _ => ⟨w.heap.size, 0, rfl, fun j e he => by
      match j, he with
      | 0, he => obtain rfl : (⟨0, 1, 1⟩ : Ed) = e := by simpa using he
                 simp
      | 1, he => obtain rfl : (⟨0, 1, 2⟩ : Ed) = e := by simpa using he
                 simp
      | j + 2, he => simp at he⟩⟩)
  have HB0 := Lib.hid ((Below.refl w.heap.size w).alloc (Nat.le_refl _) (.cells #[.int .i64 0, .int .i64 1, .int .u64 1, .int .i64 0, .int .i64 1, .int .u64 2] 36))
  go_enter Try.func7, Try.ntmps7
  go_wp2_with (first
    | (go_at_call 8; refine (HN.out _ _ HE0.out).mono ?_; rintro e w1 ⟨p, rfl, hH, hB⟩; obtain ⟨B, hB1⟩ : ∃ B, w1.heap.size = B := ⟨_, rfl⟩; have HS : HA Held w B p 2 es w1 := ⟨Lib.hid (hB1 ▸ hH), Lib.hid (Nat.le_of_eq hB1.symm), Lib.hid (on_trans HB0.out hB)⟩; clear hH hB HN hB1)
    | (go_at_call 9; refine (HO.out _ _ _ HS.2.1.out HS.1.out).mono ?_; rintro e w2 ⟨u, rfl, hu, hB⟩; have HU := Lib.hid (ints_own hu); have HS := HS.on S hB; obtain ⟨au, cu, rfl⟩ := slice_form hu; have hba := (Below.refl w2.heap.size w2).alloc (Nat.le_refl _) (.cells #[.int .i64 0, .int .i64 1] 3); have HU := Lib.hid (HU.out.on hba); have HS := HS.on S hba; have HV := Lib.hid (two_ints w2 3); clear hu hB HO hba)
    | (go_at_call 11; refine (HI.out _ _ _ HU.out HV.out).mono ?_; rintro e w3 ⟨rfl, hB⟩; have HS := HS.on S hB; clear hB HI)
    | (go_at_call 16; refine (HE.out _ _ _ HS.1.out).mono ?_; rintro e w4 ⟨rfl, hB⟩; have HS := HS.on S hB; clear hB HE))
  go_ret
  exact ⟨rfl, HS.2.2.out⟩
end Go.Proofs.Ytpbjknhoiehonaa
