import Derived.Test.YtmhekahfgmmeaaaDoorCodJ
set_option linter.unusedVariables false
set_option linter.unusedSimpArgs false
namespace Go.Proofs.YtmhekahfgmmeaaaDoor
open Go.RowKit Go.Extern.Stop Go.Stop Go.Extern
theorem ErrAt.touch {w w' : World} {t p : Addr} {v : Value} {f : Int} {s : ByteArray} (h : Touch w t v w') (hp : p.block ≠ t.block) (hE : ErrAt w p f s) : ErrAt w' p f s := by
  obtain ⟨b, rfl, hh⟩ := hE
  exact ⟨b, rfl, by rw [h.2.2.2.2 b hp (Array.getElem?_eq_some_iff.1 hh).1]; exact hh⟩
theorem ErrAt.lt {w : World} {p : Addr} {f : Int} {s : ByteArray} (hE : ErrAt w p f s) : p.block < w.heap.size := by
  obtain ⟨b, rfl, hh⟩ := hE
  exact (Array.getElem?_eq_some_iff.1 hh).1
theorem touch_below {w w1 w2 : World} {t : Addr} {v : Value} (h0 : Below w.heap.size w w1) (h : Touch w1 t v w2) (ht : w.heap.size ≤ t.block) : Below w.heap.size w w2 := h0.trans (h.2.2.2.1 _ ht)
set_option maxHeartbeats 1000000 in
theorem calive_any (w : World) (hT : TabW w) (hg : ErrT w) :
    Calls Tryd.prog 6 #[] w fun e w' => e = .returned (.bool true) ∧ Below w.heap.size w w' := by
  have HN := Lib.hid (fun W => new_ok 9 ⟨#[48, 32, 51]⟩ (by decide) (by decide) W)
  have HW := Lib.hid (fun W (hB : Below w.heap.size w W) => cword_any 13 W (hT.on hB))
  rw [show wordB 13 = ⟨#[115, 116, 97, 108, 101]⟩ by decide] at HW
  have HE := Lib.hid (fun W p (hB : Below w.heap.size w W) (hE : ErrAt W p 9 ⟨#[48, 32, 51]⟩) => error_any p 9 ⟨#[48, 32, 51]⟩ (by decide) W (hT.on hB) hE)
  rw [show toldB 9 ⟨#[48, 32, 51]⟩ = ⟨#[110, 111, 112, 97, 116, 104, 32, 48, 32, 51]⟩ by decide] at HE
  have HG := Lib.hid hg
  have HB0 := Lib.hid ((Below.refl w.heap.size w).alloc (Nat.le_refl _) (.cells #[.pointer none] 36))
  clear hT hg
  go_enter Tryd.func6, Tryd.ntmps6
  go_wp2_with (first
    | (go_at_call 14; refine (HN.out _).mono ?_; rintro e w1 ⟨p, rfl, hE, hp, hB⟩; have HE1 := Lib.hid hE; have HP := Lib.hid hp; have HL1 := Lib.hid hB; have HB1 := Lib.hid (HB0.out.trans (hB.mono (by simp))); clear hE hp hB)
    | (go_at_call 18; refine (As_hit 0 0 _ _ p ⟨w.heap.size, 0, none⟩ (.pointer none) _ (HG.out.on HB1.out) rfl (cell_on HL1.out (by simp)) (frozen_on HL1.out (v := .pointer none) (by simp) (by simp))).mono ?_; rintro e w2 ⟨rfl, hT⟩; have hc := hT.1; have HE2 := Lib.hid (HE1.out.touch hT (by have := HP.out; simp at this; show p.block ≠ w.heap.size; omega)); have HB2 := Lib.hid (touch_below HB1.out hT (Nat.le_refl _)); clear hT)
    | (go_at_call 19; refine (HE.out _ _ HB2.out HE2.out).mono ?_; rintro e w3 ⟨rfl, hB⟩; have HB3 := Lib.hid (on_trans HB2.out hB); clear hB)
    | (go_at_call 10; refine (HW.out _ HB3.out).mono ?_; rintro e w' ⟨rfl, hw'⟩; obtain rfl := hw'.symm))
  go_ret
  exact ⟨rfl, HB3.out⟩
end Go.Proofs.YtmhekahfgmmeaaaDoor
