import Derived.Test.YtmhekahfgmmeaaaDoorCodH
set_option linter.unusedVariables false
set_option linter.unusedSimpArgs false
namespace Go.Proofs.YtmhekahfgmmeaaaDoor
open Go.RowKit Go.Extern.Stop Go.Stop Go.Extern
theorem cFld0 (a b : Value) (W : World) : (Instr.field 50 (.agg #[a, b]) 0).run Tryd.prog W = .ok a W := by kernel_rfl
theorem cFld1 (a b : Value) (W : World) : (Instr.field 50 (.agg #[a, b]) 1).run Tryd.prog W = .ok b W := by kernel_rfl
theorem fault_nil (w : World) :
    Calls Tryd.prog 15 #[.nilIface] w fun e w' => e = .returned (.int .i64 0) ∧ Below w.heap.size w w' := by
  go_enter Tryd.func15, Tryd.ntmps15
  go_wp2
  go_ret
  exact ⟨rfl, Below.refl _ _⟩
set_option maxHeartbeats 400000 in
theorem fault_hit (lo k : Nat) (u : TypeId) (x : Value) (p : Addr) (f : Int) (s : ByteArray) (w : World) (hg : ErrT w) (hC : Chain w lo k (.iface u x) (.iface 36 (.pointer (some p)))) (hE : ErrAt w p f s) :
    Calls Tryd.prog 15 #[.iface u x] w fun e w' => e = .returned (.int .i64 f) ∧ Below w.heap.size w w' := by
  have HAS := Lib.hid (first_hit lo k u x p w hg hC)
  have HE := Lib.hid hE
  have HV := Lib.hid (fun W h => value_any p f s W h)
  clear hg hC hE
  have c0 := cFld0
  go_enter Tryd.func15, Tryd.ntmps15
  go_wp2_with (first
    | (go_at_call 24; refine HAS.out.mono ?_; rintro e w1 ⟨rfl, hB⟩; have HE1 := Lib.hid (HE.out.on hB); have HB1 := Lib.hid hB; clear hB)
    | (go_at_call 25; refine (HV.out _ HE1.out).mono ?_; rintro e w2 ⟨rfl, hB⟩; have HB2 := Lib.hid (on_trans HB1.out hB); clear hB))
  go_ret
  exact ⟨rfl, HB2.out⟩
set_option maxHeartbeats 400000 in
theorem fault_other (lo k : Nat) (u : TypeId) (x y : Value) (w : World) (hg : ErrT w) (hC : Chain w lo k (.iface u x) (.iface 69 y)) :
    Calls Tryd.prog 15 #[.iface u x] w fun e w' => e = .returned (.int .i64 1) ∧ Below w.heap.size w w' := by
  have HAS := Lib.hid (first_miss lo k u x y w hg hC)
  clear hg hC
  go_enter Tryd.func15, Tryd.ntmps15
  go_wp2_with (go_at_call 24; refine HAS.out.mono ?_; rintro e w1 ⟨rfl, hB⟩; have HB1 := Lib.hid hB; clear hB)
  go_ret
  exact ⟨rfl, HB1.out⟩
set_option maxHeartbeats 400000 in
theorem about_hit (lo k : Nat) (u : TypeId) (x : Value) (p : Addr) (f : Int) (s : ByteArray) (w : World) (hg : ErrT w) (hC : Chain w lo k (.iface u x) (.iface 36 (.pointer (some p)))) (hE : ErrAt w p f s) :
    Calls Tryd.prog 16 #[.iface u x] w fun e w' => e = .returned (.string s) ∧ Below w.heap.size w w' := by
  have HAS := Lib.hid (first_hit lo k u x p w hg hC)
  have HE := Lib.hid hE
  have HV := Lib.hid (fun W h => value_any p f s W h)
  clear hg hC hE
  have c1 := cFld1
  go_enter Tryd.func16, Tryd.ntmps16
  go_wp2_with (first
    | (go_at_call 24; refine HAS.out.mono ?_; rintro e w1 ⟨rfl, hB⟩; have HE1 := Lib.hid (HE.out.on hB); have HB1 := Lib.hid hB; clear hB)
    | (go_at_call 25; refine (HV.out _ HE1.out).mono ?_; rintro e w2 ⟨rfl, hB⟩; have HB2 := Lib.hid (on_trans HB1.out hB); clear hB))
  go_ret
  exact ⟨rfl, HB2.out⟩
set_option maxHeartbeats 400000 in
theorem about_other (lo k : Nat) (u : TypeId) (x y : Value) (w : World) (hg : ErrT w) (hC : Chain w lo k (.iface u x) (.iface 69 y)) :
    Calls Tryd.prog 16 #[.iface u x] w fun e w' => e = .returned (.string ⟨#[]⟩) ∧ Below w.heap.size w w' := by
  have HAS := Lib.hid (first_miss lo k u x y w hg hC)
  clear hg hC
  go_enter Tryd.func16, Tryd.ntmps16
  go_wp2_with (go_at_call 24; refine HAS.out.mono ?_; rintro e w1 ⟨rfl, hB⟩; have HB1 := Lib.hid hB; clear hB)
  go_ret
  exact ⟨rfl, HB1.out⟩
set_option maxHeartbeats 400000 in
theorem about_nil (w : World) :
    Calls Tryd.prog 16 #[.nilIface] w fun e w' => e = .returned (.string ⟨#[]⟩) ∧ Below w.heap.size w w' := by
  have HAS := Lib.hid (first_nil w)
  go_enter Tryd.func16, Tryd.ntmps16
  go_wp2_with (go_at_call 24; refine HAS.out.mono ?_; rintro e w1 ⟨rfl, hB⟩; have HB1 := Lib.hid hB; clear hB)
  go_ret
  exact ⟨rfl, HB1.out⟩
theorem cToE (v : Value) (xT : TypeId) (w : World) : (Instr.typeAssert (.iface 36 v) xT 36 true).run Tryd.prog w = .ok (.tuple #[v, .bool true]) w := by kernel_rfl
theorem cToX (v : Value) (xT : TypeId) (w : World) : (Instr.typeAssert (.iface 69 v) xT 36 true).run Tryd.prog w = .ok (.tuple #[.pointer none, .bool false]) w := by kernel_rfl
theorem own_yes (v : Value) (w : World) :
    Calls Tryd.prog 53 #[.iface 36 v] w fun e w' => e = .returned (.tuple #[v, .bool true]) ∧ w' = w := by
  have tE := cToE
  go_enter Tryd.func53, Tryd.ntmps53
  go_wp2
  go_ret2
  exact ⟨rfl, rfl⟩
theorem own_no (v : Value) (w : World) :
    Calls Tryd.prog 53 #[.iface 69 v] w fun e w' => e = .returned (.tuple #[.pointer none, .bool false]) ∧ w' = w := by
  have tX := cToX
  go_enter Tryd.func53, Tryd.ntmps53
  go_wp2
  go_ret2
  exact ⟨rfl, rfl⟩
set_option maxHeartbeats 200000 in
theorem eis_err0 (p q : Addr) (f g : Int) (s1 s2 : ByteArray) (w : World) (h1 : ErrAt w p f s1) (h2 : ErrAt w q g s2) :
    Calls Tryd.prog 52 #[.pointer (some p), .iface 36 (.pointer (some q))] w fun e w' => e = .returned (.bool (g == f)) ∧ Below w.heap.size w w' := by
  have HO := Lib.hid (fun W => own_yes (.pointer (some q)) W)
  have HV1 := Lib.hid (fun W h => value_any p f s1 W h)
  have HV2 := Lib.hid (fun W h => value_any q g s2 W h)
  have H1 := Lib.hid h1
  have H2 := Lib.hid h2
  clear h1 h2
  have c0 := cFld0
  go_enter Tryd.func52, Tryd.ntmps52
  go_wp2_with (first
    | (go_at_call 53; refine (HO.out _).mono ?_; rintro e w1 ⟨rfl, hw'⟩; obtain rfl := hw'.symm)
    | (go_at_call 25; refine (HV2.out _ H2.out).mono ?_; rintro e w2 ⟨rfl, hB⟩; have H3 := Lib.hid (H1.out.on hB); have HB2 := Lib.hid hB; clear hB HV2 H1 H2)
    | (go_at_call 25; refine (HV1.out _ H3.out).mono ?_; rintro e w3 ⟨rfl, hB⟩; have HB3 := Lib.hid (on_trans HB2.out hB); clear hB HV1))
  go_ret
  exact ⟨rfl, HB3.out⟩
theorem eis_err (p q : Addr) (f g : Int) (s1 s2 : ByteArray) (w : World) (h1 : ErrAt w p f s1) (h2 : ErrAt w q g s2) :
    Calls Tryd.prog 52 #[.pointer (some p), .iface 36 (.pointer (some q))] w fun e w' => e = .returned (.bool (f == g)) ∧ Below w.heap.size w w' := by
  rw [show (f == g) = (g == f) from BEq.comm]
  exact eis_err0 p q f g s1 s2 w h1 h2
set_option maxHeartbeats 1000000 in
theorem eis_other (p q : Addr) (w : World) :
    Calls Tryd.prog 52 #[.pointer (some p), .iface 69 (.pointer (some q))] w fun e w' => e = .returned (.bool false) ∧ Below w.heap.size w w' := by
  have HO := Lib.hid (fun W => own_no (.pointer (some q)) W)
  go_enter Tryd.func52, Tryd.ntmps52
  go_wp2_with (go_at_call 53; refine (HO.out _).mono ?_; rintro e w1 ⟨rfl, hw'⟩; obtain rfl := hw'.symm)
  go_ret
  exact ⟨rfl, Below.refl _ _⟩
end Go.Proofs.YtmhekahfgmmeaaaDoor
